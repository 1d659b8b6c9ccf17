/-
 Contracts and plain facts on the way to PrettyBack. Conditions: as each says.
-/
import Derived.Test.YtoaplbljflhheaaGreatBbd
import Derived.Test.YtoaplbljflhheaaGreatBbm
import Derived.Test.YtoaplbljflhheaaGreatBbo
set_option maxHeartbeats 40000000
set_option maxRecDepth 100000
set_option linter.unusedVariables false
set_option linter.unusedSimpArgs false
namespace Go.Proofs.YtoaplbljflhheaaGreat
open _root_.Go.Proofs.Tryz
section
open Go.RowKit Go.Sort
def b4v (k : Nat) (n : Int) : Nat := if k = 30 ∨ k = 31 then (opS n).2 else 8
theorem c2f (i : Inf) : lvl i = b4v i.kind i.num := rfl
theorem Wr.node {w : World} {b : Nat} {E : Env} {X : List Pc} {t : Int} {out : List UInt8} (h : Wr w b E X t out) {p : Nat} (hp : p < E.n) :
  ∃ g o, E.a = some ⟨g, o, none⟩ ∧ At w g (o + p * 6) (nd E.l p) ∧ (nd E.l p).wf ∧ g < b := by
 obtain ⟨g, o, h1, h2, h3⟩ := h.1.row p (by rw [h.1.len]; exact hp);exact ⟨g, o, h1, h2, h3, h.1.low g o h1⟩
theorem Wr.cells {w : World} {b : Nat} {E : Env} {X : List Pc} {t : Int} {out : List UInt8} (h : Wr w b E X t out) :
  w.cell? ⟨b, 0, none⟩ = some (.slice E.a E.n E.cap) ∧ w.cell? ⟨b, 1, none⟩ = some (.map (some E.mb)) ∧ w.cell? ⟨b, 3, none⟩ = some (.int .i64 t) ∧ ∀ o, w.frozen? ⟨b, o, none⟩ = false := by
 obtain ⟨_, v, p, u, hb, _⟩ := h;exact ⟨by simp [World.cell?, hb], by simp [World.cell?, hb], by simp [World.cell?, hb], fun o => by simp [World.frozen?, hb]⟩
theorem a5k (s : ByteArray) (n : Int) (w : World) : (Instr.field 103 (.agg #[.string s, .int .i64 n]) 1).run prog w = .ok (.int .i64 n) w := by kernel_rfl
theorem b5d (s : ByteArray) (n : Int) (w : World) : (Instr.field 103 (.agg #[.string s, .int .i64 n]) 0).run prog w = .ok (.string s) w := by kernel_rfl
theorem U9 {w : World} {b : Nat} {E : Env} {X : List Pc} {t : Int} {out : List UInt8} (h : Wr w b E X t out) {p : Nat} (hp : p < E.n) (q : Nat) (hq : b4v (nd E.l p).kind (nd E.l p).num = q)
  (hs : (nd E.l p).kind = 30 ∨ (nd E.l p).kind = 31 -> (nd E.l p).num ∈ sgE.map (·.1)) :
  Calls prog 81 #[pR b, .int .i64 p] w fun e w' => e = .returned (.int .i64 q) ∧ Below w.heap.size w w' := by
 obtain ⟨g, o, ha, hat, hwf, hgb⟩ := h.node hp;obtain ⟨c0, c1, -, -⟩ := h.cells;have hbl := h.lt;have hmb := h.1.mlow;have hmp := h.1.map;have hfew := h.1.few;obtain ⟨Ea, En, Ecap, El, Em⟩ := E;simp only at *;subst ha;obtain ⟨kd, ln, cl, sz, num, tx, hN⟩ : ∃ kd ln cl sz num tx, nd El p = ⟨kd, ln, cl, sz, num, tx⟩ := ⟨_, _, _, _, _, _, rfl⟩;rw [hN] at hat hq hs;obtain ⟨t0, t1, t2, t3, t4, t5⟩ := hat;simp only at *;clear h hN hwf;by_cases h30 : kd = 30 ∨ kd = 31
 ·obtain ⟨s, lv, hop⟩ : ∃ s lv, opS num = (s, lv) := ⟨_, _, rfl⟩;have hq' : lv = q := by rw [<- hq, b4v, if_pos h30, hop]
  subst hq'
  have HL : Hid (∀ w', Below w.heap.size w w' -> (Instr.lookup 61 (.map (some Em)) (.int .i64 num) false).run prog w' = .ok (.agg #[.string (bs s), .int .i64 lv]) w') := zz fun w' hb => by
   have := Pu ((hb.block Em (by omega)).trans hmp) (hs h30);rw [sgV, hop] at this;exact this
  clear hq hs hmp hop;rcases h30 with rfl | rfl
  ·have HL1 := fun n => HL.out ((w.alloc (.cells #[.int .u8 30, .int .i64 ln, .int .i64 cl, .int .i64 sz, .int .i64 num, .string tx] 37)).drewN n) (Ab (Aa _ _) (An _ n))
   have HF := a5k (bs s) lv;go_enter func81, ntmps81;go_wp2
   go_quiet (fail)
   go_wp2;go_ret;exact ⟨rfl, Ab (Aa _ _) (An _ _)⟩
  ·have HL1 := fun n => HL.out ((w.alloc (.cells #[.int .u8 31, .int .i64 ln, .int .i64 cl, .int .i64 sz, .int .i64 num, .string tx] 37)).drewN n) (Ab (Aa _ _) (An _ n))
   have HF := a5k (bs s) lv;go_enter func81, ntmps81;go_wp2
   go_quiet (fail)
   go_wp2;go_ret;exact ⟨rfl, Ab (Aa _ _) (An _ _)⟩
 ·have hq' : q = 8 := by rw [<- hq, b4v, if_neg h30]
  subst hq';have e1 : ((kd : Int) == 30) = false := by rw [beq_eq_false_iff_ne]; omega
  have e2 : ((kd : Int) == 31) = false := by rw [beq_eq_false_iff_ne]; omega
  clear hq hs hmp h30;go_enter func81, ntmps81;go_wp2;go_ret;exact ⟨rfl, Aa _ _⟩
end
section
open Go.RowKit
def b2k (w : World) (R : Option (List Nat)) (e : Ending) (w' : World) : Prop := ∃ v, e = .returned (.tuple #[v, .bool R.isSome]) ∧ Qk w' w.heap.size v (R.getD []) ∧ Below w.heap.size w w'
def c23 (l : List Nd) (w : World) (R : Option (List Nat)) (i st : Nat) (v j : Value) (wr : World) : Prop :=
 ∃ (k : Nat) (x : List Nat), i + 1 <= k ∧ k <= st ∧ j = .int .i64 k ∧ x.length <= k ∧ (Cq (sz l) st k).map (x ++ ·) = R ∧ Qk wr w.heap.size v x ∧ Below w.heap.size w wr
theorem b2k.bad {w w' : World} {R : Option (List Nat)} (h : R = none) (hb : Below w.heap.size w w') : b2k w R (.returned (.tuple #[.slice none 0 0, .bool false])) w' := by
 subst h;exact ⟨_, rfl, Oi _ _, hb⟩
theorem b2k.good {w w' : World} {R : Option (List Nat)} {x : List Nat} {v : Value} (h : R = some x) (ho : Qk w' w.heap.size v x) (hb : Below w.heap.size w w') : b2k w R (.returned (.tuple #[v, .bool true])) w' := by
 subst h;exact ⟨_, rfl, ho, hb⟩
theorem N0 (b o n cap : Nat) (l : List Nd) (w : World) (hn : Hid (l.length = n)) (hl : n <= 1000000) (hr : Hid (Qv w b o l)) (i st : Nat) (hi : i < n) (h1 : 0 <= sz l i) (h2 : st <= n) (hst : Hid ((i : Int) + 1 + sz l i = st)) (R : Option (List Nat)) (hR : Hid (Cq (sz l) st (i + 1) = R)) :
  Calls prog 43 #[.slice (some ⟨b, o, none⟩) n cap, .int .i64 (i : Nat)] w (b2k w R) := by
 have c3 := (hr.out i (by rw [hn.out]; exact hi)).1.c3;obtain ⟨z, hz⟩ : ∃ z, (nd l i).size = z := ⟨_, rfl⟩;have hz1 : 0 <= z := by rw [<- hz]; exact h1
 have hz2 : (i : Int) + 1 + z = st := by rw [<- hst.out, <- hz]; rfl
 rw [hz] at c3;have hlast : (i : Int) + z = st - 1 := by omega
 have hz3 : z <= 1000000 := by omega
 have hist : i + 1 <= st := by omega
 clear hz;replace hz2 := zz hz2;replace hlast := zz hlast;clear h1;go_enter func43, ntmps43;go_wp2_with fail
 go_loopw [6, 8] (fun v j wr => c23 l w R i st v j wr) (fun _ j _ => st - (intOf j).toNat)
 case atStart =>
  refine ⟨i + 1, [], Nat.le_refl _, hist, by go_num, by simp, by rw [hR.out]; simp, Oi _ _, Below.refl _ _⟩
 case round =>
  obtain ⟨k, x, hk1, hk2, rfl, hx, hRR, hown, hbel⟩ := hrel;have hsz := hbel.size;have hlast' := hlast.out;by_cases hlt : k < st
  ·have hkn : k < l.length := by rw [hn.out]; omega
   obtain ⟨hat, hwf⟩ := (hr.out.carry hbel) k hkn;have d3 := hat.c3;have hs := hwf.size;unfold Bg at hs;obtain ⟨s, hs0⟩ : ∃ s, (nd l k).size = s := ⟨_, rfl⟩;have hss : sz l k = s := hs0;rw [hs0] at d3 hs;clear hs0 hat hwf c3;obtain ⟨hs1, hs2⟩ := hs;have g0 : (k : Int) <= i + z := by omega
   by_cases hb0 : s < 0
   ·have HR := zz (show R = none by rw [<- hRR, Cp hlt (by rw [hss]; exact .inl hb0)]; rfl);clear hRR hss hown hlast';replace hbel := zz hbel;go_wp2_with fail
    go_ret2
    exact b2k.bad HR.out hbel.out
   ·by_cases hb1 : (st : Int) - 1 - k < s
    ·have HR := zz (show R = none by rw [<- hRR, Cp hlt (by rw [hss]; exact .inr hb1)]; rfl);have g1 : (i : Int) + z - k < s := by omega
     clear hRR hss hown hlast';replace hbel := zz hbel;go_wp2_with fail
     go_ret2
     exact b2k.bad HR.out hbel.out
    ·have g1 : ¬ (i : Int) + z - k < s := by omega
     have hsn : s = (s.toNat : Nat) := by omega
     obtain ⟨m, hm⟩ : ∃ m, s.toNat = m := ⟨_, rfl⟩;rw [hm] at hsn
     have HR := zz (show (Cq (sz l) st (k + 1 + m)).map ((x ++ [k]) ++ ·) = R by
      rw [<- hRR, Bh hlt (by rw [hss]; omega), hss, hm]
      cases Cq (sz l) st (k + 1 + m) <;> simp)
     have HC := zz (show ∀ w2, Below w.heap.size w w2 -> w2.cell? ⟨b, o + k * 6 + 3, none⟩ = some (.int .i64 (m : Nat)) from fun w2 h => by
      rw [((hr.out.carry h) k hkn).1.c3, show (nd l k).size = s from hss, hsn])
     have hkn' : k < n := by omega
     have hm2 : k + 1 + m <= st := by omega
     clear hRR hss hlast' hm hkn;subst hsn;replace hbel := zz hbel;replace hown := zz hown;go_wp2_with (at_builtin; refine Fg rfl _ _ rfl w.heap.size u6 x k wr.heap.size rfl rfl rfl rfl hown.out hsz (by omega) ?_; intro v2 w2 ho2 hb2; have d4 := HC.out w2 (hbel.out.trans hb2); replace ho2 := zz ho2; replace hb2 := zz (hbel.out.trans hb2))
     go_roundw
     case rel => exact ⟨k + 1 + m, x ++ [k], by omega, hm2, by go_num, by simp; omega, HR.out, ho2.out, hb2.out⟩
     case measure => simp [intOf]; omega
  ·have HR := zz (show R = some x by rw [<- hRR, Bj hlt]; simp);have g0 : ¬ (k : Int) <= i + z := by omega
   clear hRR hlast';replace hbel := zz hbel;replace hown := zz hown;go_wp2_with fail
   go_ret2
   exact b2k.good HR.out hown.out hbel.out
end
end Go.Proofs.YtoaplbljflhheaaGreat
