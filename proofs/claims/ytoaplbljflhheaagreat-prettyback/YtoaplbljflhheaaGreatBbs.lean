/-
 Contracts and plain facts on the way to PrettyBack. Conditions: as each says.
-/
import Derived.Test.YtoaplbljflhheaaGreatBbq
import Derived.Test.YtoaplbljflhheaaGreatBbp
import Derived.Deep.OwnRows
import Derived.Test.YtoaplbljflhheaaGreatBag
import Derived.Test.YtoaplbljflhheaaGreatBat
import Derived.Test.YtoaplbljflhheaaGreatBba
set_option maxHeartbeats 40000000
set_option maxRecDepth 100000
set_option linter.unusedVariables false
set_option linter.unusedSimpArgs false
namespace Go.Proofs.YtoaplbljflhheaaGreat
open _root_.Go.Proofs.Tryz
section
open Go.RowKit
theorem Mg {w : World} {B : Nat} {v : Value} {l : List Nat} (h : Qk w B v l) : ∃ a cap, v = .slice a l.length cap ∧ ∀ i, i < l.length -> ∃ g, a = some ⟨g, 0, none⟩ ∧ B <= g ∧ w.cell? ⟨g, i, none⟩ = some (itv (l.getD i 0)) := by
 rcases h.2 with ⟨rfl, hn⟩ | ⟨g, cap, cur, rfl, h2, h3⟩
 ·obtain rfl := List.eq_nil_of_length_eq_zero hn;exact ⟨none, 0, rfl, fun i hi => absurd hi (by simp)⟩
 ·have hown : w.ownsRow B 3 1 (.slice (some ⟨g, 0, none⟩) l.length cap) l.length (l.map itv) := h;refine ⟨_, cap, rfl, fun i hi => ⟨g, rfl, h2, ?_⟩⟩;rw [hown.cellAt i (by omega)];simp [List.getD, hi]
theorem Jb {x : List Nat} {k : Nat} (h : k < x.length) : x.getD k 0 ∈ x := by simp [List.getD, h]
theorem a58 {S : Nat -> Int} {stop : Nat} : ∀ {d k : Nat}, stop - k <= d -> ∀ {l : List Nat}, Cq S stop k = some l -> l.length <= stop - k := by
 intro d
 induction d with
 | zero =>
  intro k hd l h;rw [Bj (by omega)] at h
  cases h; simp
 | succ d ih =>
  intro k hd l h;by_cases hk : k < stop
  ·by_cases hb : S k < 0 ∨ (stop : Int) - 1 - k < S k
   ·rw [Cp hk hb] at h; cases h
   ·rw [Bh hk hb] at h;obtain ⟨m, hm, rfl⟩ := Option.map_eq_some_iff.1 h;have := ih (by omega) hm;rw [List.length_cons]; omega
  ·rw [Bj hk] at h;cases h; simp
theorem Su {S : Nat -> Int} {n i : Nat} (h : Ok S n i) : (A7 S i).length <= n := by
 have := a58 (Nat.le_refl _) (Db h);have := h.high;have := h.low;omega
def c1k (w : World) (x : List Nat) (e : Ending) (w' : World) : Prop := ∃ v, e = .returned v ∧ Qk w' w.heap.size v x ∧ Below w.heap.size w w'
theorem Mb (b o n cap : Nat) (l : List Nd) (w : World) (hn : Hid (l.length = n)) (hl : n <= 1000000) (hr : Hid (Qv w b o l)) (i : Nat) (hi : i < n) (hok : Hid (Ok (sz l) n i)) (xs : List Nat) (hxs : Hid (A7 (sz l) i = xs)) :
  Calls prog 28 #[.slice (some ⟨b, o, none⟩) n cap, .int .i64 (i : Nat)] w (c1k w xs) := by
 have hch := Db hok.out;rw [hxs.out] at hch;have l1 := hok.out.low;have l2 := hok.out.high;obtain ⟨st, hst⟩ : ∃ st, i + 1 + (sz l i).toNat = st := ⟨_, rfl⟩;rw [hst] at hch;obtain ⟨m, hm⟩ : ∃ m : Nat, sz l i = m := ⟨(sz l i).toNat, by omega⟩;have hstw : (i : Int) + 1 + m = st := by omega
 have hist : i + 1 <= st := by omega
 have hstn : st <= n := by omega
 have hmb : m <= 1000000 := by omega
 have HC0 := zz (show ∀ w2, Below w.heap.size w w2 -> w2.cell? ⟨b, o + i * 6 + 3, none⟩ = some (.int .i64 (m : Nat)) from fun w2 h => by
  rw [((hr.out.carry h) i (by rw [hn.out]; exact hi)).1.c3, show (nd l i).size = (m : Int) from hm])
 clear l1 l2 hst hm;replace hstw := zz hstw;replace hch := zz hch;go_enter func28, ntmps28;go_wp2_with fail
 go_loopw [5, 6] (fun v j wr => c23 l w (some xs) i st v j wr) (fun _ j _ => st - (intOf j).toNat)
 case atStart => exact ⟨i + 1, [], Nat.le_refl _, hist, by go_num, by simp, by rw [hch.out]; simp, a34 (Nat.le_refl _), Aa _ _⟩
 case round =>
  obtain ⟨k, x, hk1, hk2, rfl, hx, hRR, hown, hbel⟩ := hrel;have hsz := hbel.size;have d0 := HC0.out wr hbel;have hstw' := hstw.out;by_cases hlt : k < st
  ·have hkn : k < l.length := by rw [hn.out]; omega
   by_cases hb : sz l k < 0 ∨ (st : Int) - 1 - k < sz l k
   ·rw [Cp hlt hb] at hRR; cases hRR
   ·obtain ⟨q, hq⟩ : ∃ q : Nat, sz l k = q := ⟨(sz l k).toNat, by omega⟩
    have HR := zz (show (Cq (sz l) st (k + 1 + q)).map ((x ++ [k]) ++ ·) = some xs by
      rw [<- hRR, Bh hlt hb, hq, Int.toNat_natCast]
      cases Cq (sz l) st (k + 1 + q) <;> simp)
    have HC := zz (show ∀ w2, Below w.heap.size w w2 -> w2.cell? ⟨b, o + k * 6 + 3, none⟩ = some (.int .i64 (q : Nat)) from fun w2 h => by
     rw [((hr.out.carry h) k hkn).1.c3, show (nd l k).size = (q : Int) from hq])
    have hq2 : k + 1 + q <= st := by omega
    have g0 : (k : Int) < i + 1 + m := by omega
    have hkn' : k < n := by omega
    clear hRR hq hb hkn hstw';replace hbel := zz hbel;replace hown := zz hown;go_wp2_with (at_builtin; refine Fg rfl _ _ rfl w.heap.size u5 x k wr.heap.size rfl rfl rfl rfl hown.out hsz (by omega) ?_; intro v2 w2 ho2 hb2; have d4 := HC.out w2 (hbel.out.trans hb2); replace ho2 := zz ho2; replace hb2 := zz (hbel.out.trans hb2))
    go_roundw
    case rel => exact ⟨k + 1 + q, x ++ [k], by omega, hq2, by go_num, by simp; omega, HR.out, ho2.out, hb2.out⟩
    case measure => simp [intOf]; omega
  ·have HR := zz (show x = xs by rw [Bj hlt] at hRR; simpa using hRR);have g0 : ¬ (k : Int) < i + 1 + m := by omega
   clear hRR hstw';replace hbel := zz hbel;replace hown := zz hown;go_wp2_with fail;go_ret;exact ⟨_, rfl, HR.out ▸ hown.out, hbel.out⟩
end
section
open Go.RowKit Go.Sort
theorem a9z {w : World} {b g o n cap : Nat} {l : List Nd} (hb0 : Hid (w.cell? ⟨b, 0, none⟩ = some (.slice (some ⟨g, o, none⟩) n cap))) (hn : Hid (l.length = n)) (hl : n <= 1000000) (hr : Hid (Qv w g o l)) (i : Nat) (hi : i < n) (hok : Hid (Ok (sz l) n i)) (xs : List Nat) (hxs : Hid (A7 (sz l) i = xs)) :
  Calls prog 114 #[pR b, .int .i64 (i : Nat)] w (c1k w xs) := by
 have hch := Db hok.out;rw [hxs.out] at hch;have l1 := hok.out.low;have l2 := hok.out.high;obtain ⟨st, hst⟩ : ∃ st, i + 1 + (sz l i).toNat = st := ⟨_, rfl⟩;rw [hst] at hch;obtain ⟨m, hm⟩ : ∃ m : Nat, sz l i = m := ⟨(sz l i).toNat, by omega⟩;have hstw : (i : Int) + 1 + m = st := by omega
 have hist : i + 1 <= st := by omega
 have hstn : st <= n := by omega
 have hmb : m <= 1000000 := by omega
 have HB := zz (show ∀ w2, Below w.heap.size w w2 -> w2.cell? ⟨b, 0, none⟩ = some (.slice (some ⟨g, o, none⟩) n cap) from fun w2 h => Ac h hb0.out)
 have HC0 := zz (show ∀ w2, Below w.heap.size w w2 -> w2.cell? ⟨g, o + i * 6 + 3, none⟩ = some (.int .i64 (m : Nat)) from fun w2 h => by
  rw [((hr.out.carry h) i (by rw [hn.out]; exact hi)).1.c3, show (nd l i).size = (m : Int) from hm])
 have b0 := hb0.out;have d0 := HC0.out w (Below.refl _ _);clear l1 l2 hst hm;replace hstw := zz hstw;replace hch := zz hch;go_enter func114, ntmps114;go_wp2_with fail
 go_loopw [5, 7] (fun v j wr => c23 l w (some xs) i st v j wr) (fun _ j _ => st - (intOf j).toNat)
 case atStart => exact ⟨i + 1, [], Nat.le_refl _, hist, by go_num, by simp, by rw [hch.out]; simp, Oi _ _, Below.refl _ _⟩
 case round =>
  obtain ⟨k, x, hk1, hk2, rfl, hx, hRR, hown, hbel⟩ := hrel;have hsz := hbel.size;clear d0 b0;have hstw' := hstw.out;by_cases hlt : k < st
  ·have hkn : k < l.length := by rw [hn.out]; omega
   by_cases hb : sz l k < 0 ∨ (st : Int) - 1 - k < sz l k
   ·rw [Cp hlt hb] at hRR; cases hRR
   ·obtain ⟨q, hq⟩ : ∃ q : Nat, sz l k = q := ⟨(sz l k).toNat, by omega⟩
    have HR := zz (show (Cq (sz l) st (k + 1 + q)).map ((x ++ [k]) ++ ·) = some xs by
      rw [<- hRR, Bh hlt hb, hq, Int.toNat_natCast]
      cases Cq (sz l) st (k + 1 + q) <;> simp)
    have HC := zz (show ∀ w2, Below w.heap.size w w2 -> w2.cell? ⟨g, o + k * 6 + 3, none⟩ = some (.int .i64 (q : Nat)) from fun w2 h => by
     rw [((hr.out.carry h) k hkn).1.c3, show (nd l k).size = (q : Int) from hq])
    have hq2 : k + 1 + q <= st := by omega
    have g0 : (k : Int) <= i + m := by omega
    have hkn' : k < n := by omega
    clear hRR hq hb hkn hstw';replace hbel := zz hbel;replace hown := zz hown;go_wp2_with (at_builtin; refine Fg rfl _ _ rfl w.heap.size u5 x k wr.heap.size rfl rfl rfl rfl hown.out hsz (by omega) ?_; intro v2 w2 ho2 hb2; have d4 := HC.out w2 (hbel.out.trans hb2); have d5 := HB.out w2 (hbel.out.trans hb2); replace ho2 := zz ho2; replace hb2 := zz (hbel.out.trans hb2))
    go_roundw
    case rel => exact ⟨k + 1 + q, x ++ [k], by omega, hq2, by go_num, by simp; omega, HR.out, ho2.out, hb2.out⟩
    case measure => simp [intOf]; omega
  ·have HR := zz (show x = xs by rw [Bj hlt] at hRR; simpa using hRR);have g0 : ¬ (k : Int) <= i + m := by omega
   clear hRR hstw';replace hbel := zz hbel;replace hown := zz hown;go_wp2_with fail;go_ret;exact ⟨_, rfl, HR.out ▸ hown.out, hbel.out⟩
theorem Mn {w : World} {b : Nat} {E : Env} {X : List Pc} {t : Int} {out : List UInt8} (h : Wr w b E X t out) {p : Nat} (hp : p < E.n) (hok : Ok (sz E.l) E.n p) (xs : List Nat) (hxs : A7 (sz E.l) p = xs) :
  Calls prog 114 #[pR b, .int .i64 p] w (c1k w xs) := by
 obtain ⟨g, o, ha, -⟩ := h.node hp
 have hr : Qv w g o E.l := fun i hi => by
  obtain ⟨g', o', h1, h2, h3⟩ := h.1.row i hi;rw [ha] at h1; cases h1;exact ⟨h2, h3⟩
 have hc := h.cells.1;rw [ha] at hc;exact a9z (zz hc) (zz h.1.len) h.1.few (zz hr) p hp (zz hok) xs (zz hxs)
end
section
open Go.RowKit Go.Sort
def Ca (ts : List Tmp) (vs : List Value) (a : Act) : Prop := ∀ x ∈ ts.zip vs, a.eval (.tmp x.1) = x.2
def c0f (ops : Array Oper) (n : Nat) (ts : List Tmp) : Bool := (List.range n).all fun i => Region.waitsFor .any ops n i || match ops[i]? with
 | some o => ts.all fun t => decide (o.dst ≠ some t)
 | none => true
theorem b0y {a : Act} {d : Option Tmp} {v : Value} {t : Tmp} (h : d ≠ some t) : (a.put d v).eval (.tmp t) = a.eval (.tmp t) := by
 cases d with
 | none => rfl
 | some u =>
  have hne : u ≠ t := fun e => h (by rw [e])
  simp [Act.put, Act.eval, hne]
theorem a44 {ops : Array Oper} {n : Nat} {ts : List Tmp} {vs : List Value} (hf : c0f ops n ts = true) (i : Nat) (o : Oper) (a : Act) (v : Value) (hi : i < n) (ho : ops[i]? = some o) (hw : Region.waitsFor .any ops n i = false) (h : Ca ts vs (a.put o.dst v)) : Ca ts vs a := by
 intro x hx;have h1 := List.all_eq_true.1 hf i (List.mem_range.2 hi);rw [hw, ho, Bool.false_or] at h1;have h2 := List.all_eq_true.1 h1 x.1 (List.of_mem_zip hx).1;rw [<- h x hx, b0y (by simpa using h2)]
section
variable {id : Nat} {Q : Exit -> Act -> World -> Prop} {a : Act} {w : World} {l : List Oper}
theorem A5 (n k : Nat) (ts : List Tmp) (vs : List Value) (news : Array Value) (P : List Pc) (oa : Oper) (hoa : l.toArray[n]? = some oa) (hB : a59 .any l.toArray n = true) (hf : c0f l.toArray n ts = true) (hn : news.toList = Cm P)
  (hal : ∀ (a : Act) (w : World) (K : Act -> World -> Prop), Ca ts vs a -> K (a.put oa.dst (.slice (some ⟨w.heap.size, 0, none⟩) k k)) (w.alloc (.cells news 71)) -> wpOp prog l.toArray Q n K a w)
  (h : wpU prog l.toArray w (fun a' => Ca ts vs a' ∧ ∀ b w', Below w.heap.size w w' -> Tk (Cm P) b w' -> wpList prog l.toArray Q (l.drop (n + 1)) (a'.put oa.dst (.slice (some ⟨b, 0, none⟩) k k)) w') (l.take n) a) :
  (Code.region id l.toArray true).wp prog Q a w :=
 J9 n oa (Obj.cells news 71) (fun b => .slice (some ⟨b, 0, none⟩) k k) (Ca ts vs) (Tk (Cm P)) (by kernel_rfl) hB hoa (fun i o a v hi ho hw h => a44 hf i o a v hi ho hw h) hal (fun b w w' h1 h2 => h1.carry h2) (fun w' _ => LiesP.made w' hn) h
end
theorem Dn (s : ByteArray) (w : World) : Calls prog 83 #[.string s] w fun e w' => e = .returned (pcV s 0 0 0) ∧ Aft w w' := Cy s w
theorem Dp (n : Nat) (w : World) : Calls prog 48 #[.int .i64 n] w fun e w' => e = .returned (pcV { data := #[] } n 0 0) ∧ Aft w w' := Lk n w
theorem A3 (n : Nat) (k : Int) (m : Nat) (hk : k = m) (w : World) : Calls prog 156 #[.int .i64 n, .int .i64 k] w fun e w' => e = .returned (pcV { data := #[] } n k 0) ∧ Aft w w' := by
 subst hk;exact a36 n m w
def D3 (b : Nat) (w : World) (a : Option Addr) (ps : List Nat) : Prop := ∀ i, i < ps.length -> ∃ g o cs fz, a = some ⟨g, o, none⟩ ∧ w.heap[g]? = some (.cells cs 3 fz) ∧ g ≠ b ∧ cs[o + i]? = some (itv (ps.getD i 0))
theorem D3.fw {b : Nat} {w w' : World} {a : Option Addr} {ps : List Nat} (h : D3 b w a ps) (hf : Fw b w w') : D3 b w' a ps := fun i hi => by
 obtain ⟨g, o, cs, fz, h1, h2, h3, h4⟩ := h i hi;exact ⟨g, o, cs, fz, h1, hf.cells g cs 3 fz h2 h3 (by decide) (by decide), h3, h4⟩
theorem D3.carry {b : Nat} {w w' : World} {a : Option Addr} {ps : List Nat} (h : D3 b w a ps) (hb : Below w.heap.size w w') : D3 b w' a ps := fun i hi => by
 obtain ⟨g, o, cs, fz, h1, h2, h3, h4⟩ := h i hi;exact ⟨g, o, cs, fz, h1, (hb.block g (Ay h2)).trans h2, h3, h4⟩
theorem D3.cell {b : Nat} {w : World} {g o : Nat} {ps : List Nat} (h : D3 b w (some ⟨g, o, none⟩) ps) {i : Nat} (hi : i < ps.length) : w.cell? ⟨g, o + i, none⟩ = some (itv (ps.getD i 0)) := by
 obtain ⟨g', o', cs, fz, h1, h2, h3, h4⟩ := h i hi;cases h1;simp [World.cell?, h2, h4]
theorem D3.addr {b : Nat} {w : World} {a : Option Addr} {ps : List Nat} (h : D3 b w a ps) (hp : 0 < ps.length) : ∃ g o, a = some ⟨g, o, none⟩ := by
 obtain ⟨g, o, cs, fz, h1, _⟩ := h 0 hp;exact ⟨g, o, h1⟩
structure Lv (w V : World) (b : Nat) (E : Env) (X : List Pc) (t : Int) (out : List UInt8) (box : Array Value) (T : TypeId) (a : Option Addr) (ps : List Nat) : Prop where
 wr : Wr V b E X t out
 fw : Fw b w V
 bx : V.heap[w.heap.size]? = some (.cells box T (0, 0))
 tb : T ≠ 71 ∧ T ≠ 5
 nb : w.heap.size ≠ b
 kd : D3 b V a ps
theorem Lv.start {w : World} {b : Nat} {E : Env} {X : List Pc} {t : Int} {out : List UInt8} {a : Option Addr} {ps : List Nat} (h : Wr w b E X t out) (hk : D3 b w a ps) (box : Array Value) (T : TypeId) (hT : T ≠ 71 ∧ T ≠ 5) : Lv w (w.alloc (.cells box T)) b E X t out box T a ps := by
 have hl := h.lt;exact ⟨h.carry (Aa w _), Fw.below (Aa w _) (by omega), heap_alloc_new w _, hT, by omega, hk.carry (Aa w _)⟩
theorem Lv.put {w V V1 V2 : World} {b : Nat} {E : Env} {X P : List Pc} {t : Int} {out : List UInt8} {box : Array Value} {T : TypeId} {a : Option Addr} {ps : List Nat} (h : Lv w V b E X t out box T a ps) (hb : Below V.heap.size V V1) (hw : Wr V2 b E (X ++ P) t out) (hf : Fw b V1 V2) : Lv w V2 b E (X ++ P) t out box T a ps := by
 have hF := (Fw.below hb (Nat.le_of_lt h.wr.lt)).trans hf;exact ⟨hw, h.fw.trans hF, hF.cells _ _ _ _ h.bx h.nb h.tb.1 h.tb.2, h.tb, h.nb, h.kd.fw hF⟩
theorem Lv.more {w V V1 : World} {b : Nat} {E : Env} {X : List Pc} {t : Int} {out : List UInt8} {box : Array Value} {T : TypeId} {a : Option Addr} {ps : List Nat} (h : Lv w V b E X t out box T a ps) (hb : Below V.heap.size V V1) : Lv w V1 b E X t out box T a ps :=
 ⟨h.wr.carry hb, h.fw.trans (Fw.below hb (Nat.le_of_lt h.wr.lt)), (hb.block _ (Ay h.bx)).trans h.bx, h.tb, h.nb, h.kd.carry hb⟩
theorem Lv.cell {w V : World} {b : Nat} {E : Env} {X : List Pc} {t : Int} {out : List UInt8} {box : Array Value} {T : TypeId} {a : Option Addr} {ps : List Nat} (h : Lv w V b E X t out box T a ps) (j : Nat) {v : Value} (hv : box[j]? = some v) : V.cell? ⟨w.heap.size, j, none⟩ = some v := by
 simp [World.cell?, h.bx, hv]
theorem Lv.done {w V : World} {b : Nat} {E : Env} {X X' P : List Pc} {t : Int} {out : List UInt8} {box : Array Value} {T : TypeId} {a : Option Addr} {ps : List Nat} (h : Lv w V b E X' t out box T a ps) (e : X' = X ++ P) : Put b E X t out P w (.returned (.tuple #[])) V := ⟨rfl, e ▸ h.wr, h.fw⟩
end
section
open Go.RowKit
def Ai (l : List Nd) (x : Nat) : Nat := (nd l x).kind
def Vz (l : List Nd) (xs : List Nat) (k j : Nat) : Value := if j < k then .int .u8 (Ai l (xs.getD j 0) : Nat) else .int .u8 0
theorem a4y (b o n cap : Nat) (l : List Nd) (w : World) (hn : Hid (l.length = n)) (hl : n <= 1000000) (hr : Hid (Qv w b o l)) (a' : Option Addr) (m cap' : Nat) (xs : List Nat) (hm : Hid (xs.length = m)) (hml : m <= 1000000)
  (hx : Hid (∀ i, i < xs.length -> ∃ g, a' = some ⟨g, 0, none⟩ ∧ w.cell? ⟨g, i, none⟩ = some (itv (xs.getD i 0)) ∧ xs.getD i 0 < n)) :
  Calls prog 45 #[.slice (some ⟨b, o, none⟩) n cap, .slice a' m cap'] w fun e w' => ∃ g, e = .returned (.slice (some ⟨g, 0, none⟩) m m) ∧ M1 w' (some ⟨g, 0, none⟩) (xs.map (Ai l)) ∧ Below w.heap.size w w' := by
 have hmk := run_make_row' (P := prog) 58 5 (.int .u8 0) 1 underlying58 Tryz.info5 rfl .i64 .i64 m (by omega) (by omega);go_enter func45, ntmps45;go_wp2_with fail
 go_loopw [13] (fun j wr => ∃ k : Nat, k <= m ∧ j = .int .i64 k ∧ wr.rowIs w.heap.size 5 m (Vz l xs k) ∧ Below w.heap.size w wr) (fun j _ => m - (intOf j).toNat)
 case atStart => exact ⟨0, Nat.zero_le _, rfl, (World.rowIs_made w (.int .u8 0) m 5).congr fun i hi => by simp [Vz], Aa _ _⟩
 case round =>
  clear hmk;obtain ⟨k, hk, rfl, hrow, hbel⟩ := hrel;by_cases hlt : k < m
  ·obtain ⟨g, rfl, hc, hxn⟩ := hx.out k (by rw [hm.out]; exact hlt);obtain ⟨x, hxx⟩ : ∃ x, xs.getD k 0 = x := ⟨_, rfl⟩;rw [hxx] at hc hxn;have hc' := Ac hbel hc;obtain ⟨hat, hwf⟩ := (hr.out.carry hbel) x (by rw [hn.out]; exact hxn);have c0 := hat.c0;have hkd := hwf.kind;obtain ⟨kd, hkk⟩ : ∃ kd, (nd l x).kind = kd := ⟨_, rfl⟩;rw [hkk] at c0 hkd;have s1 := hrow.cell hlt;have s2 := hrow.frozen k;rw [show Vz l xs k k = .int .u8 0 by simp [Vz]] at s1
   have HR := zz ((hrow.set k (.int .u8 (kd : Nat))).congr (g := Vz l xs (k + 1)) fun i hi => by
    by_cases e : i = k
    ·subst e; rw [if_pos rfl, Vz, if_pos (by omega), hxx, Ai, hkk]
    ·simp [Vz, e, show (i < k + 1) = (i < k) by rw [eq_iff_iff]; omega])
   have HB := zz (show Below w.heap.size w (wr.setCell ⟨w.heap.size, k, none⟩ (.int .u8 (kd : Nat))) from hbel.setCell (Nat.le_refl _) _);clear hat hwf hkk hxx hrow hbel hc;go_wp2_with fail
   go_roundw
   case rel => exact ⟨k + 1, hlt, by go_num, HR.out, HB.out⟩
   case measure => simp [intOf]; omega
  ·have HK := zz (show M1 wr (some ⟨w.heap.size, 0, none⟩) (xs.map (Ai l)) from fun i hi => by
    rw [List.length_map, hm.out] at hi;have := hrow.cell hi;rw [Vz, if_pos (by omega)] at this;have hi2 : i < xs.length := by rw [hm.out]; exact hi
    have e : (xs.map (Ai l)).getD i 0 = Ai l (xs.getD i 0) := by simp [List.getD, hi2]
    obtain ⟨_, _, _, hxn⟩ := hx.out i hi2
    exact ⟨w.heap.size, 0, rfl, by rw [Nat.zero_add, e]; exact this, by rw [e]; exact (hr.out (xs.getD i 0) (by rw [hn.out]; exact hxn)).2.kind⟩)
   replace hbel := zz hbel;clear hrow;go_wp2_with fail;go_ret;exact ⟨_, rfl, HK.out, hbel.out⟩
end
section
open Go.RowKit
def C3 (l : List Nd) (j : Nat) : Bool := Bc (Ai l j) (nd l j).text.data.toList && Bk (Ai l j) (nd l j).num
def Kg (l : List Nd) (j : Nat) : Bool := Hl (Ai l j) (nd l j).num ((A7 (sz l) j).map (Ai l))
noncomputable def Rq (l : List Nd) : Bool := Gn (sz l) l.length && decide (Ai l 0 = 1) && (List.range l.length).all fun j => C3 l j && Kg l j
theorem c00 {w w' : World} {v0 v1 v2 v3 v4 v5 : Value} (hb : Below (w.alloc (.cells #[v0, v1, v2, v3, v4, v5] 37)).heap.size (w.alloc (.cells #[v0, v1, v2, v3, v4, v5] 37)) w') :
  w'.cell? ⟨w.heap.size, 0, none⟩ = some v0 ∧ w'.cell? ⟨w.heap.size, 1, none⟩ = some v1 ∧ w'.cell? ⟨w.heap.size, 2, none⟩ = some v2 ∧ w'.cell? ⟨w.heap.size, 3, none⟩ = some v3 ∧ w'.cell? ⟨w.heap.size, 4, none⟩ = some v4 ∧ w'.cell? ⟨w.heap.size, 5, none⟩ = some v5 :=
 ⟨Ac hb (by simp [go_sem]), Ac hb (by simp [go_sem]), Ac hb (by simp [go_sem]), Ac hb (by simp [go_sem]), Ac hb (by simp [go_sem]), Ac hb (by simp [go_sem])⟩
theorem b9o (b o n cap : Nat) (l : List Nd) (w : World) (hn : Hid (l.length = n)) (hl : n <= 1000000) (hr : Hid (Qv w b o l)) (hpos : 0 < n) (hR : Hid (Right (sz l) n)) (h1 : Hid (Ai l 0 = 1)) (p : Bool) (hp : Hid (((List.range n).all fun j => C3 l j && Kg l j) = p)) :
  Calls prog 23 #[.slice (some ⟨b, o, none⟩) n cap] w fun e w' => e = .returned (.bool p) ∧ Below w.heap.size w w' := by
 have HRi := zz (Pb b o n cap l w hn hl hr hpos true (zz (Ec hR.out)))
 have HC0 := zz (fun w2 (h : Below w.heap.size w w2) => show w2.cell? ⟨b, o, none⟩ = some (.int .u8 1) by
  have := ((hr.out.carry h) 0 (by rw [hn.out]; exact hpos)).1.c0;rw [Nat.zero_mul, Nat.add_zero, show (nd l 0).kind = 1 from h1.out] at this
  exact this)
 go_enter func23, ntmps23;go_wp2_with (go_at_call 40; refine HRi.out.mono ?_; rintro e w1 ⟨rfl, hb1⟩; have c0 := HC0.out w1 hb1; replace hb1 := zz hb1);clear HC0 HRi c0
 go_loopw [19] (fun j wr => ∃ k : Nat, k <= n ∧ j = .int .i64 k ∧ (∀ j, j < k -> (C3 l j && Kg l j) = true) ∧ Below w.heap.size w wr) (fun j _ => n - (intOf j).toNat)
 case atStart => exact ⟨0, Nat.zero_le _, rfl, fun j hj => absurd hj (by omega), hb1.out⟩
 case round =>
  obtain ⟨k, hk, rfl, hok, hbel⟩ := hrel;replace hok := zz hok;by_cases hlt : k < n
  ·obtain ⟨hat, hwf⟩ := (hr.out.carry hbel) k (by rw [hn.out]; exact hlt);obtain ⟨c0, c1, c2, c3, c4, c5⟩ := hat;obtain ⟨kd, ln, cl, s, num, tx, hN⟩ : ∃ kd ln cl s num tx, nd l k = ⟨kd, ln, cl, s, num, tx⟩ := ⟨_, _, _, _, _, _, rfl⟩;rw [hN] at c0 c1 c2 c3 c4 c5 hwf;have HW := zz hwf;simp only at c0 c1 c2 c3 c4 c5;clear hwf;have hkd : Ai l k = kd := by rw [Ai, hN]
   have hF : C3 l k = (Bc kd tx.data.toList && Bk kd num) := by rw [C3, hkd, hN]
   obtain ⟨ks, hks⟩ : ∃ ks, (A7 (sz l) k).map (Ai l) = ks := ⟨_, rfl⟩;have hK : Kg l k = Hl kd num ks := by rw [Kg, hkd, hN, hks]
   have HB0 := zz (Ab hbel (Aa wr (.cells #[.int .u8 (kd : Nat), .int .i64 ln, .int .i64 cl, .int .i64 s, .int .i64 num, .string tx] 37)))
   have hbad : Hid ((C3 l k && Kg l k) = false -> p = false) := zz fun h => by
    rw [<- hp.out, List.all_eq_false];exact ⟨k, List.mem_range.2 hlt, by rw [h]; simp⟩
   clear hN hkd
   cases hT : Bc kd tx.data.toList with
   | false =>
    have hp' : p = false := hbad.out (by rw [hF, hT]; rfl);subst hp';replace hT := zz hT;clear hF hK hks hbel;go_wp2_with fail;refine (Lq ⟨kd, ln, cl, s, num, tx⟩ HW.out _ false hT.out).mono ?_;rintro e w2 ⟨rfl, hb2⟩;replace hb2 := zz (Ab HB0.out hb2);go_wp2_with fail;go_ret
    exact ⟨rfl, hb2.out⟩
   | true =>
    cases hM : Bk kd num with
    | false =>
     have hp' : p = false := hbad.out (by rw [hF, hT, hM]; rfl);subst hp';replace hT := zz hT;replace hM := zz hM;clear hF hK hks hbel;go_wp2_with fail;refine (Lq ⟨kd, ln, cl, s, num, tx⟩ HW.out _ true hT.out).mono ?_;rintro e w2 ⟨rfl, hb2⟩;obtain ⟨g0, g1, g2, g3, g4, g5⟩ := c00 hb2;replace hb2 := zz (Ab HB0.out hb2);go_wp2_with fail;refine (Rn ⟨kd, ln, cl, s, num, tx⟩ HW.out _ false hM.out).mono ?_;rintro e w3 ⟨rfl, hb3⟩;replace hb3 := zz (Ab hb2.out hb3);go_wp2_with fail;go_ret
     exact ⟨rfl, hb3.out⟩
    | true =>
     have ok := hR.out.ok k hlt;have l1 := ok.low;have l2 := ok.high;have hch := Db ok;have hkl := Su ok;have hkn := fun x hx => (hR.out.kid_lt (y := x) hlt hx).2
     obtain ⟨xs, hxs⟩ : ∃ xs, A7 (sz l) k = xs := ⟨_, rfl⟩;rw [hxs] at hch hkl hkn hks;have HCH := zz (fun w1 (h : Below w.heap.size w w1) => N0 b o n cap l w1 hn hl (zz (hr.out.carry h)) k (k + 1 + (sz l k).toNat) hlt l1 (by omega) (zz (by omega)) (some xs) (zz hch));replace hkn := zz hkn;have HKO := zz (show ∀ q, Hl kd num ks = q -> (C3 l k && Kg l k) = q from fun q h => by rw [hF, hT, hM, hK, h]; rfl);replace hT := zz hT;replace hM := zz hM;replace hks := zz hks;clear hF hK hbel ok l1 l2 hch hxs;have hkl2 : xs.length <= 1000000 := by omega
     go_wp2_with fail;refine (Lq ⟨kd, ln, cl, s, num, tx⟩ HW.out _ true hT.out).mono ?_;rintro e w2 ⟨rfl, hb2⟩;obtain ⟨g0, g1, g2, g3, g4, g5⟩ := c00 hb2;replace hb2 := zz (Ab HB0.out hb2);go_wp2_with fail;refine (Rn ⟨kd, ln, cl, s, num, tx⟩ HW.out _ true hM.out).mono ?_;rintro e w3 ⟨rfl, hb3⟩;replace g0 := Ac hb3 g0;replace g1 := Ac hb3 g1;replace g2 := Ac hb3 g2;replace g3 := Ac hb3 g3;replace g4 := Ac hb3 g4;replace g5 := Ac hb3 g5;replace hb3 := zz (Ab hb2.out hb3);go_wp2_with fail;refine (HCH.out _ hb3.out).mono ?_;rintro e w4 ⟨v, rfl, hown, hb4⟩;replace g0 := Ac hb4 g0;replace g1 := Ac hb4 g1;replace g2 := Ac hb4 g2;replace g3 := Ac hb4 g3;replace g4 := Ac hb4 g4;replace g5 := Ac hb4 g5;simp only [Option.getD_some] at hown;obtain ⟨a', cap', rfl, hcell⟩ := Mg hown;replace hcell := zz hcell;replace hb4 := zz (Ab hb3.out hb4);clear hown;go_wp2_with fail;refine (a6p ⟨kd, ln, cl, s, num, tx⟩ HW.out _).mono ?_;rintro e w5 ⟨v5, rfl, hrt, hb5⟩
     have HKD := zz (a4y b o n cap l w5 hn hl (zz (hr.out.carry (Ab hb4.out hb5))) a' xs.length cap' xs (zz rfl) hkl2 (zz fun i hi => by
      obtain ⟨g, h1, _, h2⟩ := hcell.out i hi
      exact ⟨g, h1, Ac hb5 h2, hkn.out _ (Jb hi)⟩))
     replace hb5 := zz (Ab hb4.out hb5);replace hrt := zz hrt;obtain ⟨f5, c5, rfl⟩ := Cg hrt.out;go_wp2_with fail;refine HKD.out.mono ?_;rintro e w6 ⟨g, rfl, hkr, hb6⟩;obtain ⟨f6, caps6, he6, eg, hc6⟩ := hrt.out.carry hb6;cases he6;rw [hks.out] at hkr;have hksl : ks.length = xs.length := by rw [<- hks.out, List.length_map]
     cases hA : Hl kd num ks with
     | false =>
      have hp' : p = false := hbad.out (HKO.out false hA);subst hp';have HC6 := zz (hc6 w6 (Below.refl _ _) g 0 xs.length xs.length ks hksl (Nat.le_refl _) hkl2 hkr false hA);replace hb6 := zz (Ab hb5.out hb6);clear hc6 hkr hA hksl;go_wp2_with fail;refine HC6.out.mono ?_;rintro e w7 ⟨rfl, hb7⟩;replace hb7 := zz (Ab hb6.out hb7);go_wp2_with fail;go_ret
      exact ⟨rfl, hb7.out⟩
     | true =>
      have HO := zz (show ∀ j, j < k + 1 -> (C3 l j && Kg l j) = true from fun j hj => by
       by_cases e : j = k
       ·subst e; exact HKO.out true hA
       ·exact hok.out j (by omega))
      have HC6 := zz (hc6 w6 (Below.refl _ _) g 0 xs.length xs.length ks hksl (Nat.le_refl _) hkl2 hkr true hA);replace hb6 := zz (Ab hb5.out hb6);clear hc6 hkr hA hksl;go_wp2_with fail;refine HC6.out.mono ?_;rintro e w7 ⟨rfl, hb7⟩;replace hb7 := zz (Ab hb6.out hb7);go_wp2_with fail
      go_roundw
      case rel => exact ⟨k + 1, hlt, by go_num, HO.out, hb7.out⟩
      case measure => simp [intOf]; omega
  ·have hp' : p = true := by
    rw [<- hp.out, List.all_eq_true];intro j hj;exact hok.out j (by have := List.mem_range.1 hj; omega)
   subst hp';replace hbel := zz hbel;go_wp2_with fail;go_ret;exact ⟨rfl, hbel.out⟩
theorem b4p (a : Option Addr) (n cap : Nat) (l : List Nd) (w : World) (hn : l.length = n) (hl : n <= 1000000) (hr : Row w a l) (hp : Gn (sz l) n = false) :
  Calls prog 23 #[.slice a n cap] w fun e w' => e = .returned (.bool false) ∧ Below w.heap.size w w' := by
 have H := zz (a3f a n cap l w hn hl hr false hp);clear hn hr hp;go_enter func23, ntmps23;go_wp2_with (go_at_call 40; refine H.out.mono ?_; rintro e w1 ⟨rfl, hb1⟩; replace hb1 := zz hb1);go_ret;exact ⟨rfl, hb1.out⟩
theorem a9p (b o n cap : Nat) (l : List Nd) (w : World) (hn : Hid (l.length = n)) (hl : n <= 1000000) (hr : Hid (Qv w b o l)) (hpos : 0 < n) (hR : Hid (Right (sz l) n)) (h1 : Ai l 0 ≠ 1) :
  Calls prog 23 #[.slice (some ⟨b, o, none⟩) n cap] w fun e w' => e = .returned (.bool false) ∧ Below w.heap.size w w' := by
 have HRi := zz (Pb b o n cap l w hn hl hr hpos true (zz (Ec hR.out)));obtain ⟨kd, hkd⟩ : ∃ kd, Ai l 0 = kd := ⟨_, rfl⟩
 have HC0 := zz (fun w2 (h : Below w.heap.size w w2) => show w2.cell? ⟨b, o, none⟩ = some (.int .u8 (kd : Nat)) by
  have := ((hr.out.carry h) 0 (by rw [hn.out]; exact hpos)).1.c0;rw [Nat.zero_mul, Nat.add_zero, show (nd l 0).kind = kd from hkd] at this
  exact this)
 have e1 : ((kd : Int) != 1) = true := by rw [bne_iff_ne]; omega
 clear h1 hkd;go_enter func23, ntmps23;go_wp2_with (go_at_call 40; refine HRi.out.mono ?_; rintro e w1 ⟨rfl, hb1⟩; have c0 := HC0.out w1 hb1; replace hb1 := zz hb1);go_ret;exact ⟨rfl, hb1.out⟩
theorem Xf (a : Option Addr) (n cap : Nat) (l : List Nd) (w : World) (hn : l.length = n) (hl : n <= 1000000) (hr : Row w a l) (p : Bool) (hp : Rq l = p) :
  Calls prog 23 #[.slice a n cap] w fun e w' => e = .returned (.bool p) ∧ Below w.heap.size w w' := by
 unfold Rq at hp;rw [hn] at hp
 cases h1 : Gn (sz l) n with
 | false =>
  rw [h1, Bool.false_and, Bool.false_and] at hp;subst hp
  exact b4p a n cap l w hn hl hr h1
 | true =>
  have hR := Kt.1 h1;have hpos := hR.pos;obtain ⟨b, o, rfl, hb⟩ := hr.block (by intro h; rw [h] at hn; simp at hn; omega);by_cases h2 : Ai l 0 = 1
  ·rw [h1, h2] at hp;exact b9o b o n cap l w (zz hn) hl (zz hb) hpos (zz hR) (zz h2) p (zz (by simpa using hp))
  ·rw [h1, show decide (Ai l 0 = 1) = false by simpa using h2] at hp;have hp' : p = false := by rw [<- hp]; rfl
   subst hp';exact a9p b o n cap l w (zz hn) hl (zz hb) hpos (zz hR) h2
end
section
open Go.RowKit Go.Sort
end
section
open Go.RowKit Go.Sort
def a7a (w : World) (P : World -> Prop) : Prop := ∀ w', Below w.heap.size w w' -> P w'
theorem a7a.at_ {w w' : World} {P : World -> Prop} (h : a7a w P) (hb : Below w.heap.size w w') : a7a w' P := fun w2 h2 => h w2 (Ab hb h2)
end
section
open Go.RowKit Go.Sort
def a67 (c : Nat) (s : List UInt8) : Bool := s.all fun x => decide (x.toNat = c)
def hdK (ks : List Nat) : Nat := ks.headD 0
def Ff (root : Bool) (k : Nat) (num : Int) (ks : List Nat) : Bool := match k with
 | 1 => root && a67 100 (ks.map srt)
 | 2 => a67 102 (ks.map srt)
 | 3 => ks.map srt == [116]
 | 5 => ks.map srt == [116]
 | 20 => ks.map srt == [116]
 | 4 => decide (2 <= ks.length) && (((ks.length : Int) - 2 == num) && (a67 112 ((ks.map srt).take (ks.length - 2)) && (((ks.map srt).getD (ks.length - 2) 0 == 116 || (ks.map srt).getD (ks.length - 2) 0 == 48) && (ks.map srt).getD (ks.length - 1) 0 == 98)))
 | 6 => a67 115 (ks.map srt)
 | 7 => ks.map srt == [116, 101]
 | 8 => ks.map srt == [101, 101] && (hdK ks == 26 || (hdK ks == 28 || hdK ks == 29))
 | 9 => ks.map srt == [101, 98] || ks.map srt == [101, 98, 98]
 | 10 => ks.map srt == [101, 98]
 | 11 => ks.map srt == [] || ks.map srt == [101]
 | 12 => ks.map srt == [101]
 | 29 => ks.map srt == [101]
 | 30 => ks.map srt == [101]
 | 13 => ks.map srt == [101] && hdK ks == 27
 | 27 => a67 101 (ks.map srt)
 | 28 => ks.map srt == [101, 101]
 | 31 => ks.map srt == [101, 101]
 | 32 => (ks.map srt == [116] && hdK ks == 19) || (ks.map srt == [116, 101] && hdK ks == 20)
 | k => ks.map srt == [] && (decide (14 <= k) && decide (k <= 26))
def b2l (l : List Nd) (xs : List Nat) (w1 : World) (v j : Value) (wr : World) : Prop :=
 ∃ i : Nat, i <= xs.length ∧ j = .int .i64 i ∧ Own wr w1.heap.size v ((xs.take i).map fun x => srt (Ai l x)) ∧ Below w1.heap.size w1 wr
theorem b2l.step {l : List Nd} {xs : List Nat} {w1 w2 wr : World} {v : Value} {i : Nat} {j : Int} (hi : i < xs.length) (hj : j = ((i + 1 : Nat) : Int)) (ho : Own w2 w1.heap.size v ((xs.take i).map (fun x => srt (Ai l x)) ++ [srt (Ai l (xs.getD i 0))])) (hb : Below w1.heap.size w1 w2) : b2l l xs w1 v (.int .i64 j) w2 := by
 refine ⟨i + 1, hi, by rw [hj], ?_, hb⟩;rw [List.take_succ_eq_append_getElem hi, List.map_append];have : xs.getD i 0 = xs[i] := by simp [List.getD, hi]
 rw [this] at ho;simpa using ho
end
end Go.Proofs.YtoaplbljflhheaaGreat
