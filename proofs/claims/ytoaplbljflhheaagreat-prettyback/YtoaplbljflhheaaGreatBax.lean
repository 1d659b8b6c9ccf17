/-
 Contracts and plain facts on the way to PrettyBack. Conditions: as each says.
-/
import Derived.BigRegion
import Derived.Deep.AppendLies
import Derived.Deep.RegionLaw
import Derived.Test.YtoaplbljflhheaaGreatBaj
import Derived.Test.YtoaplbljflhheaaGreatBau
set_option maxHeartbeats 40000000
set_option maxRecDepth 100000
set_option linter.unusedVariables false
set_option linter.unusedSimpArgs false
namespace Go.Proofs.YtoaplbljflhheaaGreat
open _root_.Go.Proofs.Tryz
section
section
open Go.RowKit
structure Sit (w : World) (b tb to tc : Nat) (T : List Tok) (at_ : Nat) (d : Nat) (v : Value) (D : List Nd) (n : Nat) (ts : List Tok) : Prop where
 rd : Rd w b tb to tc T at_ d v D
 dr : T.drop at_ = ts
 en : Ya ts
 ln : ts.length <= n
 rm : D.length + ts.length <= 500000
 dp : d <= 40
def Out.good : Out -> Bool
 | .ok _ _ => true
 | .bad _ _ _ => false
def Qw (b tb to tc : Nat) (T : List Tok) (d : Nat) (D : List Nd) (w : World) (o : Out) (w' : World) : Prop :=
 match o with
 | .ok F r => (∃ at' v', T.drop at' = r ∧ Rd w' b tb to tc T at' d v' (D ++ F.post)) ∧ Fr b w w'
 | .bad c l k => Rf w' b c l k ∧ Fr b w w'
def Fc (b tb to tc : Nat) (T : List Tok) (d : Nat) (D : List Nd) (w : World) (o : Out) (e : Ending) (w' : World) : Prop := e = .returned (.bool o.good) ∧ Qw b tb to tc T d D w o w'
def Ef (f : FuncId) (n : Nat) (p : Pt) : Prop := ∀ ⦃w : World⦄ ⦃b tb to tc : Nat⦄ ⦃T : List Tok⦄ ⦃at_ d : Nat⦄ ⦃v : Value⦄ ⦃D : List Nd⦄ ⦃ts : List Tok⦄, Sit w b tb to tc T at_ d v D n ts -> Calls prog f #[pR b] w (Fc b tb to tc T d D w (p d ts))
section
variable {w w' : World} {b tb to tc : Nat} {T : List Tok} {at_ d : Nat} {v : Value} {D : List Nd} {n : Nat} {ts : List Tok}
theorem Sit.carry (h : Sit w b tb to tc T at_ d v D n ts) (hb : Below w.heap.size w w') : Sit w' b tb to tc T at_ d v D n ts := ⟨h.rd.carry hb, h.dr, h.en, h.ln, h.rm, h.dp⟩
theorem Sit.up (h : Sit w b tb to tc T at_ d v D n ts) {m : Nat} (hm : n <= m) : Sit w b tb to tc T at_ d v D m ts := ⟨h.rd, h.dr, h.en, by have := h.ln; omega, h.rm, h.dp⟩
theorem Sit.next (h : Sit w b tb to tc T at_ d v D n ts) : T[at_]? = some (hd ts) := by
 obtain ⟨t, l, rfl⟩ := h.en.ne;have := h.dr;have h2 := congrArg (fun l => l[0]?) this;simpa [hd] using h2
theorem Sit.tail (h : Sit w b tb to tc T at_ d v D n ts) {w' : World} (hr : Rd w' b tb to tc T (at_ + 1) d v D) (hk : (hd ts).kind ≠ 8) : Sit w' b tb to tc T (at_ + 1) d v D (n - 1) ts.tail := by
 obtain ⟨t, l, rfl⟩ := h.en.ne;have hn := h.ln;have hm := h.rm;simp at hn hm;exact ⟨hr, by rw [<- List.drop_drop, h.dr]; rfl, h.en.tl hk, by simp; omega, by simp; omega, h.dp⟩
theorem Sit.then (h : Sit w b tb to tc T at_ d v D n ts) {s : Nat} {F : Fo} {r : List Tok} (hl : Lft (F.cnt + s) ts r) {at' : Nat} {v' : Value} {w' : World} (hd' : T.drop at' = r) (hr : Rd w' b tb to tc T at' d v' (D ++ F.post)) : Sit w' b tb to tc T at' d v' (D ++ F.post) (n - s) r := by
 have h1 := hl.1;have h2 := h.ln;have h3 := h.rm;exact ⟨hr, hd', hl.2.1 h.en, by omega, by rw [List.length_append, Ao]; omega, h.dp⟩
theorem Sit.next_at (h : Sit w b tb to tc T at_ d v D n ts) {kd ln cl : Nat} {nm : Int} {tx : List UInt8} (ht : hd ts = ⟨kd, ln, cl, nm, tx⟩) (w' : World) (hb : Below w.heap.size w w') : Calls prog 65 #[pR b] w' fun e w'' => e = .returned (.agg #[.int .u8 kd, .int .i64 ln, .int .i64 cl, .int .i64 nm, .string (bs tx)]) ∧ Below w'.heap.size w' w'' := by
 have := Sn (h.rd.carry hb) h.next;rw [ht] at this;exact this
theorem Qw.back {w0 : World} {o : Out} (h : Qw b tb to tc T d D w o w') (hf : Fr b w0 w) : Qw b tb to tc T d D w0 o w' := by
 cases o with
 | ok F r => exact ⟨h.1, hf.trans h.2⟩
 | bad c l k => exact ⟨h.1, hf.trans h.2⟩
end
theorem D9 {w : World} {b tb to tc : Nat} {T : List Tok} {at_ d : Nat} {v : Value} {D : List Nd} {n : Nat} {ts : List Tok} (h : Sit w b tb to tc T at_ d v D n ts) (s : ByteArray) (x : List UInt8) (hx : s.toList = x) :
  Calls prog 140 #[pR b, .string s] w (Fc b tb to tc T d D w (take x d ts)) := by
 obtain ⟨q, hq⟩ : ∃ q, sees x ts = q := ⟨_, rfl⟩;have H := zz (Ah h.rd h.next s x hx q hq);have HY := zz (fun w' hb => Oh (w := w') (h.rd.carry hb) h.next);have HN := zz (fun w' hb => Se (w := w') (h.rd.carry hb) h.next);have hbl := h.rd.lt;have h' := zz h;replace hq := zz hq;clear h hx;go_enter func140, ntmps140;go_wp2_with fail;refine H.out.mono ?_;rintro e w1 ⟨rfl, hb⟩;replace hb := zz hb
 cases q with
 | true =>
  go_wp2_with fail;refine (HY.out _ hb.out).mono ?_;rintro e w2 ⟨rfl, h1, h2⟩;replace h1 := zz h1;replace h2 := zz h2;go_wp2_with fail;go_ret;unfold take Jv;rw [if_pos hq.out];obtain ⟨t, l, rfl, hk, _⟩ := B0 hq.out;refine ⟨rfl, ⟨at_ + 1, v, ?_, by simpa [Fo.post] using h1.out⟩, Fr.only ((Onl.below hb.out).trans h2.out) (by omega)⟩
  rw [<- List.drop_drop, h'.out.dr]; rfl
 | false =>
  go_wp2_with fail;refine (HN.out _ hb.out).mono ?_;rintro e w2 ⟨rfl, h1, h2⟩;replace h1 := zz h1;replace h2 := zz h2;go_wp2_with fail;go_ret;unfold take Jv;rw [if_neg (by rw [hq.out]; simp)];exact ⟨rfl, h1.out, Fr.only ((Onl.below hb.out).trans h2.out) (by omega)⟩
theorem Ft {w : World} {b tb to tc : Nat} {T : List Tok} {at_ d : Nat} {v : Value} {D : List Nd} {n : Nat} {ts : List Tok} (h : Sit w b tb to tc T at_ d v D n ts) (k : Nat) (hk : k < 8) :
  Calls prog 137 #[pR b, .int .u8 k] w (Fc b tb to tc T d D w (Hc k d ts)) := by
 have HY := zz (fun w' hb => Oh (w := w') (h.rd.carry hb) h.next);have HN := zz (fun w' hb => Se (w := w') (h.rd.carry hb) h.next);have hbl := h.rd.lt;have h' := zz h;obtain ⟨⟨kd, ln, cl, nm, tx⟩, ht⟩ : ∃ t, hd ts = t := ⟨_, rfl⟩;have H := zz (h.next_at ht);have hF := Wi kd ln cl nm (bs tx);by_cases hq : kd = k
 ·have e1 : ((kd : Int) == (k : Int)) = true := by rw [hq]; simp
  replace hq := zz hq;replace ht := zz ht;clear h;go_enter func137, ntmps137;go_wp2_with fail;refine (H.out _ (Below.refl _ _)).mono ?_;rintro e w1 ⟨rfl, hb⟩;replace hb := zz hb;go_wp2_with fail;refine (HY.out _ hb.out).mono ?_;rintro e w2 ⟨rfl, h1, h2⟩;replace h1 := zz h1;replace h2 := zz h2;go_wp2_with fail;go_ret;unfold Hc Jv;rw [if_pos (by show decide ((hd ts).kind = k) = true; rw [ht.out]; simpa using hq.out)];obtain ⟨t, l, rfl⟩ := h'.out.en.ne;refine ⟨rfl, ⟨at_ + 1, v, ?_, by simpa [Fo.post] using h1.out⟩, Fr.only ((Onl.below hb.out).trans h2.out) (by omega)⟩;rw [<- List.drop_drop, h'.out.dr]; rfl
 ·have e1 : ((kd : Int) == (k : Int)) = false := by rw [beq_eq_false_iff_ne]; omega
  replace hq := zz hq;replace ht := zz ht;clear h;go_enter func137, ntmps137;go_wp2_with fail;refine (H.out _ (Below.refl _ _)).mono ?_;rintro e w1 ⟨rfl, hb⟩;replace hb := zz hb;go_wp2_with fail;refine (HN.out _ hb.out).mono ?_;rintro e w2 ⟨rfl, h1, h2⟩;replace h1 := zz h1;replace h2 := zz h2;go_wp2_with fail;go_ret;unfold Hc Jv;rw [if_neg (by show ¬ decide ((hd ts).kind = k) = true; rw [ht.out]; simpa using hq.out)];exact ⟨rfl, h1.out, Fr.only ((Onl.below hb.out).trans h2.out) (by omega)⟩
theorem D6 (n : Nat) : Ef 194 n (take [59]) := by
 intro w b tb to tc T at_ d v D ts h;have H := zz (D9 h { data := #[59] } [59] (by rw [ByteArray.toList_eq]));clear h;go_enter func194, ntmps194;go_wp2_with fail;refine H.out.mono ?_;rintro e w1 ⟨rfl, hp⟩;replace hp := zz hp;go_wp2_with fail;go_ret;exact ⟨rfl, hp.out⟩
theorem Nw (n : Nat) : Ef 220 n Bb := by
 intro w b tb to tc T at_ d v D ts h;replace h := zz h;go_enter func220, ntmps220;go_wp2_with fail;go_ret;exact ⟨rfl, ⟨at_, v, h.out.dr, by simpa [Fo.post] using h.out.rd⟩, Fr.refl _ _⟩
end
end
section
section
open Go.RowKit Go.Sort
abbrev sV (kd ln cl : Nat) (nm : Int) (X : ByteArray) (dn : Nat) : Value := .agg #[.int .u8 kd, .int .i64 ln, .int .i64 cl, .int .i64 nm, .string X, .int .i64 dn]
theorem Cj {w : World} {b tb to tc : Nat} {T : List Tok} {at_ d : Nat} {v : Value} {D : List Nd} {n : Nat} {ts : List Tok} (h : Sit w b tb to tc T at_ d v D n ts) {kd ln cl : Nat} {nm : Int} {tx : List UInt8} (ht : hd ts = ⟨kd, ln, cl, nm, tx⟩) (dn : Nat) (hdn : D.length = dn) (a : Option Addr) (cap : Nat) (hv : v = .slice a dn cap) :
  Calls prog 136 #[pR b] w fun e w' => e = .returned (sV kd ln cl nm (bs tx) dn) ∧ Below w.heap.size w w' := by
 have H := zz (h.next_at ht);have h3 := h.rd.c3;rw [hv] at h3;have hbl := h.rd.lt;clear h ht;go_enter func136, ntmps136;go_wp2_with fail;obtain ⟨W, hW⟩ : ∃ W, W = (w.alloc (Obj.cells #[Value.int IntKind.u8 0, Value.int IntKind.i64 0, Value.int IntKind.i64 0, Value.int IntKind.i64 0, Value.string { data := #[] }, Value.int IntKind.i64 0] 93)) := ⟨_, rfl⟩;have hB : Below w.heap.size w W := by rw [hW]; go_grown
 have hz : W.heap.size = w.heap.size + 1 := by rw [hW]; simp
 rw [<- hW];have k3 := fun D os => cell_regrown (w := W) (a := ⟨b, 3, none⟩) (v := .slice a dn cap) (by rw [hW]; simp [go_sem, h3, hbl]) D os
 have c0 : ∀ D os, Calls prog 65 #[pR b] (grow (redrawn W D) os) fun e w'' => e = .returned (.agg #[.int .u8 kd, .int .i64 ln, .int .i64 cl, .int .i64 nm, .string (bs tx)]) ∧ ∃ p : Regrown, w'' = grow (redrawn W p.d) p.os := fun D os => Calls.regrown_of (H.out _ (Ab hB (below_regrown _ _ _)))
 have e0 := fun w' (h : Below W.heap.size W w') => show w'.cell? ⟨w.heap.size, 0, none⟩ = some (.int .u8 0) by rw [(Cr h).1 _ _ (by omega), hW]; simp [go_sem]
 have e1 := fun w' (h : Below W.heap.size W w') => show w'.cell? ⟨w.heap.size, 1, none⟩ = some (.int .i64 0) by rw [(Cr h).1 _ _ (by omega), hW]; simp [go_sem]
 have e2 := fun w' (h : Below W.heap.size W w') => show w'.cell? ⟨w.heap.size, 2, none⟩ = some (.int .i64 0) by rw [(Cr h).1 _ _ (by omega), hW]; simp [go_sem]
 have e3 := fun w' (h : Below W.heap.size W w') => show w'.cell? ⟨w.heap.size, 3, none⟩ = some (.int .i64 0) by rw [(Cr h).1 _ _ (by omega), hW]; simp [go_sem]
 have e4 := fun w' (h : Below W.heap.size W w') => show w'.cell? ⟨w.heap.size, 4, none⟩ = some (.string { data := #[] }) by rw [(Cr h).1 _ _ (by omega), hW]; simp [go_sem]
 have e5 := fun w' (h : Below W.heap.size W w') => show w'.cell? ⟨w.heap.size, 5, none⟩ = some (.int .i64 0) by rw [(Cr h).1 _ _ (by omega), hW]; simp [go_sem]
 have e9 := fun w' (h : Below W.heap.size W w') o => show w'.frozen? ⟨w.heap.size, o, none⟩ = false by rw [(Cr h).2 _ _ (by omega), hW]; simp [go_sem]
 clear hW h3;refine Ce 8 (by kernel_rfl) (by kernel_rfl) ?_;simp only [List.take_succ_cons, List.take_zero, List.drop_succ_cons, List.drop_zero]
 repeat (quiet_step (first | with_reducible exact c0 _ _))
 refine wpQuiet_nil ?_;rintro _ ⟨⟨dq, osq⟩, rfl⟩;have hb := below_regrown W dq osq;generalize grow (redrawn W dq) osq = w' at *;have f0 := e0 _ hb;have f1 := e1 _ hb;have f2 := e2 _ hb;have f3 := e3 _ hb;have f4 := e4 _ hb;have f5 := e5 _ hb;have f9 := e9 _ hb;have hbb := Ab hB hb;clear e0 e1 e2 e3 e4 e5 e9 k3 c0;go_wp2;refine bodyPost_ret (v := sV kd ln cl nm (bs tx) dn) (by simp [results, results136, go_sem, f0, f1, f2, f3, f4, f5]) rfl ⟨rfl, ?_⟩;go_grown
end
end
section
section
open Go.RowKit Go.Sort
abbrev nV (k : Nat) (l c s : Int) (m : Int) (X : ByteArray) : Value := .agg #[.int .u8 k, .int .i64 l, .int .i64 c, .int .i64 s, .int .i64 m, .string X]
theorem Tryz.info37 : (Tryz.prog.info? 37).map (fun i => (i.zero, i.size, i.bytes)) = some (some (.agg #[.int .u8 0, .int .i64 0, .int .i64 0, .int .i64 0, .int .i64 0, .string { data := #[] }]), 6, 56) := by kernel_rfl
theorem Tk.made32 {news : Array Value} {cs : List Value} (w : World) (h : news.toList = cs) : Tk cs w.heap.size (w.alloc (.cells news 37)) := by
 subst h;refine ⟨by simp, fun j u hj => ?_⟩
 have hsz : j < news.size := by
  rcases Nat.lt_or_ge j news.size with h | h
  ·exact h
  ·rw [List.getElem?_eq_none (by simpa using h)] at hj; cases hj
 rw [D7];simp at hj;simp [go_sem, hj]
theorem Rl {w w' : World} {B : Nat} {v : Value} {l : List Nd} (h : Ov w B v l) (hb : Below w.heap.size w w') : Ov w' B v l :=
 World.ownsRow.kept h (row := none) ⟨hb.os, hb.tape, hb.output, hb.size, fun k hk _ => hb.block k hk⟩ (by cases hv : v.ownBlock <;> simp)
theorem b16 (t : Nd) : ∀ u ∈ Bn t, u.oneCell' = true := by
 intro u hu;simp only [Bn, List.mem_cons, List.not_mem_nil, or_false] at hu;rcases hu with rfl | rfl | rfl | rfl | rfl | rfl <;> rfl
theorem a8v {w : World} {B : Nat} {v : Value} {D : List Nd} {t : Nd} {dn : Nat} (h : w.ownsRow B 37 6 v (dn + 1) (Da D ++ Bn t)) (hD : D.length = dn) : Ov w B v (D ++ [t]) := by
 unfold Ov;rw [List.length_append, G0, hD];simpa [Da] using h
theorem b1q {w : World} {b : Nat} {kd ln cl fr : Nat} {nm : Int} {X : ByteArray} {k : Nat} {l c s m : Int} {Y : ByteArray} {dn : Nat} {a : Option Addr} {cap : Nat} {D : List Nd} (hbl : b < w.heap.size)
  (c3 : w.cell? ⟨b, 3, none⟩ = some (.slice a dn cap)) (fz : ∀ o, w.frozen? ⟨b, o, none⟩ = false) (z : Nat) (hz1 : (dn : Int) - fr = z) (hdn : dn <= 600000) (hD : Hid (D.length = dn)) (ho : Hid (Ov w (b + 1) (.slice a dn cap) D)) :
  Calls prog 67 #[pR b, sV kd ln cl nm X fr, nV k l c s m Y] w fun e w' => e = .returned (.bool true) ∧ ∃ v' V W, Below w.heap.size w V ∧ Ov W (b + 1) v' (D ++ [⟨k, ln, cl, z, m, Y⟩]) ∧ V.grownBy W (Value.slice a dn cap).ownBlock ∧ w' = W.setCell ⟨b, 3, none⟩ v' := by
 obtain ⟨i0, hi0, hz0, hzz1, hz2⟩ := info_parts Tryz.info37;have HI := zz (And.intro hi0 (And.intro hz0 (And.intro hzz1 hz2)));clear hi0 hz0 hzz1 hz2;go_enter func67, ntmps67;go_wp2_with fail;go_region;rename_i hK;refine hK _ _ ?_;clear hK
 obtain ⟨W, hW⟩ : ∃ W, W = ((w.alloc (Obj.cells #[Value.int IntKind.u8 kd, Value.int IntKind.i64 ln, Value.int IntKind.i64 cl, Value.int IntKind.i64 nm, Value.string X, Value.int IntKind.i64 fr] 93)).alloc
  (Obj.cells #[Value.int IntKind.u8 k, Value.int IntKind.i64 ln, Value.int IntKind.i64 cl, Value.int IntKind.i64 z, Value.int IntKind.i64 m, Value.string Y] 37)).drew := ⟨_, rfl⟩
 have hB : Below w.heap.size w W := by rw [hW]; go_grown
 have hz : W.heap.size = w.heap.size + 1 + 1 := by rw [hW]; simp
 rw [<- hW];have g3 : W.cell? ⟨b, 3, none⟩ = some (.slice a dn cap) := Ac hB c3;have g4 : ∀ o, W.frozen? ⟨b, o, none⟩ = false := fun o => C2 hB c3 (fz o)
 have n0 : W.cell? ⟨w.heap.size + 1, 0, none⟩ = some (.int .u8 k) := by rw [hW]; simp [go_sem]
 have n1 : W.cell? ⟨w.heap.size + 1, 1, none⟩ = some (.int .i64 ln) := by rw [hW]; simp [go_sem]
 have n2 : W.cell? ⟨w.heap.size + 1, 2, none⟩ = some (.int .i64 cl) := by rw [hW]; simp [go_sem]
 have n3 : W.cell? ⟨w.heap.size + 1, 3, none⟩ = some (.int .i64 z) := by rw [hW]; simp [go_sem]
 have n4 : W.cell? ⟨w.heap.size + 1, 4, none⟩ = some (.int .i64 m) := by rw [hW]; simp [go_sem]
 have n5 : W.cell? ⟨w.heap.size + 1, 5, none⟩ = some (.string Y) := by rw [hW]; simp [go_sem]
 have hbW : b < W.heap.size := by omega
 clear hW c3 fz;replace ho := zz (Rl ho.out hB);have hnb : some b ≠ (Value.slice a dn cap).ownBlock := fun e => by have := (World.ownsRow.lt ho.out b e.symm).1; omega
 have HB := zz hB;clear hB;obtain ⟨t0, ht0⟩ : ∃ t0 : Nd, t0 = ⟨k, ln, cl, z, m, Y⟩ := ⟨_, rfl⟩
 have HO : Hid ((W.alloc (.cells #[Value.int .u8 (k : Nat), Value.int .i64 (ln : Nat), Value.int .i64 (cl : Nat), Value.int .i64 (z : Nat), Value.int .i64 m, Value.string Y] 37)).drew.ownsRow (b + 1) 37 6 (.slice a dn cap) dn (Da D)) := zz (by
  have := Rl ho.out (Aa W (.cells #[Value.int .u8 (k : Nat), Value.int .i64 (ln : Nat), Value.int .i64 (cl : Nat), Value.int .i64 (z : Nat), Value.int .i64 m, Value.string Y] 37))
  unfold Ov at this; rw [hD.out] at this; exact this.drew)
 have HL : Hid (∀ j u, (Bn t0)[j]? = some u -> (W.alloc (.cells #[Value.int .u8 (k : Nat), Value.int .i64 (ln : Nat), Value.int .i64 (cl : Nat), Value.int .i64 (z : Nat), Value.int .i64 m, Value.string Y] 37)).drew.cell? ((⟨w.heap.size + 1 + 1, 0, none⟩ : Addr).add j) = some u) := zz (by
  rw [ht0, <- hz]; exact (Tk.made32 (cs := Bn ⟨k, ln, cl, z, m, Y⟩) W rfl).2)
 have HS : b + 1 <= (W.alloc (.cells #[Value.int .u8 (k : Nat), Value.int .i64 (ln : Nat), Value.int .i64 (cl : Nat), Value.int .i64 (z : Nat), Value.int .i64 m, Value.string Y] 37)).drew.heap.size := by simp; omega
 replace ht0 := zz ht0;have G3 : Hid ((W.alloc (.cells #[Value.int .u8 (k : Nat), Value.int .i64 (ln : Nat), Value.int .i64 (cl : Nat), Value.int .i64 (z : Nat), Value.int .i64 m, Value.string Y] 37)).drew.cell? ⟨b, 3, none⟩ = some (.slice a dn cap)) := zz (Ae g3 _);have G4 : Hid (∀ o, (W.alloc (.cells #[Value.int .u8 (k : Nat), Value.int .i64 (ln : Nat), Value.int .i64 (cl : Nat), Value.int .i64 (z : Nat), Value.int .i64 m, Value.string Y] 37)).drew.frozen? ⟨b, o, none⟩ = false) := zz fun o => Na g3 (g4 o) _
 have G5 : Hid (b < (W.alloc (.cells #[Value.int .u8 (k : Nat), Value.int .i64 (ln : Nat), Value.int .i64 (cl : Nat), Value.int .i64 (z : Nat), Value.int .i64 m, Value.string Y] 37)).drew.heap.size) := zz (by simp; omega);have G6 : Hid (Below w.heap.size w (W.alloc (.cells #[Value.int .u8 (k : Nat), Value.int .i64 (ln : Nat), Value.int .i64 (cl : Nat), Value.int .i64 (z : Nat), Value.int .i64 m, Value.string Y] 37)).drew) := zz (HB.out.trans ((Aa _ _).drew.mono (by omega)));have g3a := fun O => Ae g3 O
 go_wp2_with fail
 go_region_law (go_loud (refine step_append_lies _ rfl _ _ 22 rfl (b + 1) 37 i0 _ 6 56 underlying22 HI.out.1 HI.out.2.1 HI.out.2.2.1 HI.out.2.2.2 rfl (by decide) (.slice a dn cap) dn (Da D) rfl HO.out ⟨w.heap.size + 1 + 1, 0, none⟩ 1 1 (Bn t0) rfl (by simp [Bn]) HL.out (b16 _) (by decide) (by unfold maxLen; omega) (by omega) HS _ rfl ?_; intro g cap2 w2 ho2 hg2 _ _; have j3 := hg2.cell G3.out hnb; have j4 := fun o => (World.frozen?_of_block (a := ⟨b, o, none⟩) (hg2.block b G5.out hnb)).trans (G4.out o); replace ho2 := zz ho2; replace hg2 := zz hg2))
 all_goals (go_wp2_with fail; go_ret; have hs := a8v ho2.out hD.out; rw [ht0.out] at hs; exact ⟨rfl, _, _, w2, G6.out, hs, hg2.out, rfl⟩)
theorem A6 {w : World} {B : Nat} {v : Value} {D : List Nd} (h : Ov w B v D) : ∃ a cap, v = .slice a D.length cap := by
 rcases h.2 with ⟨rfl, h0⟩ | ⟨g, cap, cur, rfl, _⟩
 ·exact ⟨none, 0, by rw [h0]⟩
 ·exact ⟨_, cap, rfl⟩
theorem a8w {w : World} {B : Nat} {v : Value} {D : List Nd} (h : Ov w B v D) {k : Nat} (hk : v.ownBlock = some k) : ∃ cs, w.heap[k]? = some (.cells cs 37 (0, 0)) := by
 rcases h.2 with ⟨rfl, h0⟩ | ⟨g, cap, cur, rfl, _, hg, _⟩
 ·simp [Value.ownBlock] at hk
 ·simp [Value.ownBlock] at hk; subst hk; exact ⟨cur, hg⟩
theorem Cu {w : World} {b tb to tc : Nat} {T : List Tok} {at_ : Nat} {d : Int} {v : Value} {D : List Nd} (h : Rd w b tb to tc T at_ d v D) (kd ln cl fr : Nat) (nm : Int) (X : ByteArray) (k : Nat) (l c s m : Int) (Y : ByteArray) (z : Nat) (hz : D.length = fr + z) (hD : D.length <= 600000) :
  Calls prog 67 #[pR b, sV kd ln cl nm X fr, nV k l c s m Y] w fun e w' => e = .returned (.bool true) ∧ (∃ v', Rd w' b tb to tc T at_ d v' (D ++ [⟨k, ln, cl, z, m, Y⟩])) ∧ Fr b w w' := by
 obtain ⟨a, cap, rfl⟩ := A6 h.own;refine (b1q (X := X) (kd := kd) (ln := ln) (cl := cl) (nm := nm) (k := k) (l := l) (c := c) (s := s) (m := m) (Y := Y) h.lt h.c3 h.fz z (by omega) hD (zz rfl) (zz h.own)).mono ?_;rintro e w' ⟨rfl, v', V, W, hV, ho, hg, rfl⟩;have hbl := h.lt;have hnb : ∀ k, k <= b -> some k ≠ (Value.slice a D.length cap).ownBlock := fun k hk e => by have := (World.ownsRow.lt h.own k e.symm).1; omega
 have hW : ∀ k, k < w.heap.size -> some k ≠ (Value.slice a D.length cap).ownBlock -> W.heap[k]? = w.heap[k]? := fun k hk hn => (hg.block k (Nat.lt_of_lt_of_le hk hV.size) hn).trans (hV.block k hk)
 have hWb := hW b hbl (hnb b (Nat.le_refl _));have cc : ∀ o, W.cell? ⟨b, o, none⟩ = w.cell? ⟨b, o, none⟩ := fun o => World.cell?_of_block (w := w) hWb
 have cf : ∀ o, W.frozen? ⟨b, o, none⟩ = false := fun o => (World.frozen?_of_block (w := w) hWb).trans (h.fz o)
 obtain ⟨x4, h4⟩ := h.c4;obtain ⟨x5, h5⟩ := h.c5;obtain ⟨x6, h6⟩ := h.c6;have d0 := (cc 0).trans h.c0;have d1 := (cc 1).trans h.c1;have d2 := (cc 2).trans h.c2;have d3 := (cc 3).trans h.c3;have d4 := (cc 4).trans h4;have d5 := (cc 5).trans h5;have d6 := (cc 6).trans h6;have htl := h.tl;refine ⟨rfl, ⟨v', by simp [go_sem, d0], by simp [go_sem, d1], by simp [go_sem, d2], by simp [go_sem, d3], ⟨x4, by simp [go_sem, d4]⟩, ⟨x5, by simp [go_sem, d5]⟩, ⟨x6, by simp [go_sem, d6]⟩, fun o => by simp [go_sem, cf], ?_, h.tl, h.tn, ownsRow_setCell_below ho (by simp) _⟩, ?_⟩
 ·intro i t ht;refine (h.tok i t ht).of ?_;rw [Below.heap_setCell _ _ _ _ (by simp; omega)];exact hW tb (by omega) (hnb tb (by omega))
 ·refine ⟨hg.os.trans hV.os, hg.tape.trans hV.tape, hg.output.trans hV.output, by simpa using Nat.le_trans hV.size hg.size, fun i hi => ?_, fun i cs e fz h1 h2 h3 => ?_⟩
  ·rw [Below.heap_setCell _ _ _ _ (by simp; omega)];exact hW i (by omega) (hnb i (by omega))
  ·rw [Below.heap_setCell _ _ _ _ (by simpa using h2), <- h1];refine hW i (Ay h1) fun e2 => ?_
   obtain ⟨cs', h4⟩ := a8w h.own e2.symm;rw [h1] at h4;cases h4;exact h3 rfl
end
end
section
section
open Go.RowKit Go.Sort
def Fn (u : Value) (n : Nat) (p : Pt) : Prop := ∃ f, u = .func (.func f) #[] #[] ∧ (∀ args w, (callFunc f args).run prog w = .ok (.enter f args) w) ∧ Ef f n p
theorem Ef.mono {f : FuncId} {n m : Nat} {p : Pt} (h : Ef f n p) (hm : m <= n) : Ef f m p := fun _ _ _ _ _ _ _ _ _ _ _ s => h (s.up hm)
theorem Fn.mono {u : Value} {n m : Nat} {p : Pt} (h : Fn u n p) (hm : m <= n) : Fn u m p := by
 obtain ⟨f, h1, h2, h3⟩ := h;exact ⟨f, h1, h2, h3.mono hm⟩
theorem Nh {w : World} {b tb to tc : Nat} {T : List Tok} {at_ d : Nat} {v : Value} {D : List Nd} {n : Nat} {ts : List Tok} (h : Sit w b tb to tc T at_ d v D n ts) (hk : (hd ts).kind ≠ 8) {u : Value} {p : Pt} (hf : Fn u (n - 1) p) :
  Calls prog 174 #[pR b, u] w (Fc b tb to tc T d D w (C9 p d ts)) := by
 obtain ⟨f, rfl, eg, hdo⟩ := hf;have hbl := h.rd.lt;have hdp := h.dp;by_cases h40 : d = 40
 ·have HF := zz (Mr h.rd h.next 6);have c2 := h.rd.c2;have e40 : ((d : Int) == 40) = true := by rw [h40]; rfl
  unfold C9 N7;rw [if_pos h40];clear h eg hdo hk h40;go_enter func174, ntmps174;go_wp2_with fail;refine HF.out.mono ?_;rintro e w1 ⟨rfl, h1, h2⟩;replace h1 := zz h1;replace h2 := zz h2;go_wp2_with fail;go_ret;exact ⟨rfl, h1.out, Fr.only h2.out (by omega)⟩
 ·have e40 : ((d : Int) == 40) = false := by rw [beq_eq_false_iff_ne]; omega
  have hlt : at_ < T.length := (List.getElem?_eq_some_iff.1 h.next).1;have htn := h.rd.tn;have hn : at_ < 1000000 := by omega
  obtain ⟨d1, hd1⟩ : ∃ d1, d + 1 = d1 := ⟨_, rfl⟩;have hd2 : (d : Int) + 1 = d1 := by omega
  have hd3 : (d1 : Int) - 1 = d := by omega
  obtain ⟨a1, ha1⟩ : ∃ a1, at_ + 1 = a1 := ⟨_, rfl⟩;have ha2 : (at_ : Int) + 1 = a1 := by omega
  have HS : Hid (Sit ((w.setCell ⟨b, 1, none⟩ (.int .i64 a1)).setCell ⟨b, 2, none⟩ (.int .i64 d1)) b tb to tc T a1 d1 v D (n - 1) ts.tail) := zz (by
   have h1 := (h.rd.bump a1).deep d1;have h2 := h.tail (h.rd.bump (at_ + 1)) hk;rw [ha1] at h2
   exact ⟨h1, h2.dr, h2.en, h2.ln, h2.rm, by omega⟩)
  have HD := zz (hdo HS.out);have HW : Hid (Onl b w ((w.setCell ⟨b, 1, none⟩ (.int .i64 a1)).setCell ⟨b, 2, none⟩ (.int .i64 d1))) := zz ((Onl.set _ _ _ _).trans (Onl.set _ _ _ _));have c1 := h.rd.c1;have c2 := h.rd.c2;have fz := h.rd.fz;unfold C9;rw [if_neg h40, hd1];obtain ⟨o, ho⟩ : ∃ o, p d1 ts.tail = o := ⟨_, rfl⟩;rw [ho] at HD ⊢;clear h hdo hk hlt htn ha1 h40 hd1 ho;go_enter func174, ntmps174;go_wp2_with fail;refine HD.out.mono ?_;rintro e w1 ⟨rfl, hp⟩
  cases o with
  | ok F r =>
   obtain ⟨⟨at', v', hdr, hr⟩, hfr⟩ := hp;have k2 := hr.c2;have kf := hr.fz;replace hr := zz hr;replace hfr := zz hfr;replace hdr := zz hdr;go_wp2_with fail;go_ret;refine ⟨rfl, ⟨at', v', hdr.out, ?_⟩, ((Fr.only HW.out (by omega)).trans hfr.out).trans (Fr.only (Onl.set _ _ _ _) (by have := hr.out.lt; omega))⟩
   exact hr.out.deep d
  | bad c l k =>
   obtain ⟨hr, hfr⟩ := hp;obtain ⟨x, k2⟩ := hr.c2;have kf := hr.fz;replace hr := zz hr;replace hfr := zz hfr;go_wp2_with fail;go_ret;exact ⟨rfl, hr.out.deep _, ((Fr.only HW.out (by omega)).trans hfr.out).trans (Fr.only (Onl.set _ _ _ _) (by have := hr.out.lt; omega))⟩
theorem b0d (F : Fo) (o : Out) : (o.bind fun G r' => .ok (F.app G) r').good = o.good := by cases o <;> rfl
theorem Qw.app {w w1 w2 : World} {b tb to tc : Nat} {T : List Tok} {d : Nat} {D : List Nd} {F : Fo} {o : Out} (h : Qw b tb to tc T d (D ++ F.post) w1 o w2) (hf : Fr b w w1) : Qw b tb to tc T d D w (o.bind fun G r' => .ok (F.app G) r') w2 := by
 cases o with
 | ok G r =>
  obtain ⟨⟨at', v', h1, h2⟩, h3⟩ := h
  exact ⟨⟨at', v', h1, by rw [Bo, <- List.append_assoc]; exact h2⟩, hf.trans h3⟩
 | bad c l k => exact ⟨h.1, hf.trans h.2⟩
theorem Cw {w : World} {b tb to tc : Nat} {T : List Tok} {at_ d : Nat} {v : Value} {D : List Nd} {n : Nat} {ts : List Tok} (h : Sit w b tb to tc T at_ d v D n ts) (so sc : ByteArray) (x y : List UInt8) (hx : so.toList = x) (hy : sc.toList = y) {u : Value} {p : Pt} (hf : Fn u (n - 1) p) (hp : Gd 0 p) :
  Calls prog 138 #[pR b, .string so, .string sc, u] w (Fc b tb to tc T d D w (Az x y p d ts)) := by
 have hbl := h.rd.lt;obtain ⟨q, hq⟩ : ∃ q, sees x ts = q := ⟨_, rfl⟩;have H := zz (Ah h.rd h.next so x hx q hq)
 cases q with
 | false =>
  have HN := zz (fun w' hb => Mr (w := w') (h.rd.carry hb) h.next 5);unfold Az N7;rw [if_neg (by rw [hq]; simp)];clear h hf;go_enter func138, ntmps138;go_wp2_with fail;refine H.out.mono ?_;rintro e w1 ⟨rfl, hb⟩;replace hb := zz hb;go_wp2_with fail;refine (HN.out _ hb.out).mono ?_;rintro e w2 ⟨rfl, h1, h2⟩;replace h1 := zz h1;replace h2 := zz h2;go_wp2_with fail;go_ret
  exact ⟨rfl, h1.out, Fr.only ((Onl.below hb.out).trans h2.out) (by omega)⟩
 | true =>
  have hk : (hd ts).kind ≠ 8 := by
   obtain ⟨t, l, rfl, hk, _⟩ := B0 hq;simp [hd]; omega
  have HD := zz (fun w' hb => Nh (h.carry (w' := w') hb) hk hf);have HL := zz (fun F r e => Ki (d := d) hq hp F r e);have HS := zz h;unfold Az Fd;rw [if_pos hq];obtain ⟨o, ho⟩ : ∃ o, C9 p d ts = o := ⟨_, rfl⟩;rw [ho] at HD HL ⊢;obtain ⟨f, rfl, _, _⟩ := hf;clear h ho;go_enter func138, ntmps138;go_wp2_with fail;refine H.out.mono ?_;rintro e w1 ⟨rfl, hb⟩;replace hb := zz hb;go_wp2_with fail;refine (HD.out _ hb.out).mono ?_;rintro e w2 ⟨rfl, hw⟩;replace hw := zz hw
  cases o with
  | bad c l k =>
   go_wp2_with fail;go_ret
   exact ⟨rfl, hw.out.1, (Fr.only (Onl.below hb.out) (by omega)).trans hw.out.2⟩
  | ok F r =>
   obtain ⟨⟨at', v', hdr, hrd⟩, hfr⟩ := hw.out;have HT := zz (D9 (HS.out.then (HL.out F r rfl) hdr hrd) sc y hy);replace hfr := zz hfr;clear hdr hrd hw HD HL;go_wp2_with fail;refine HT.out.mono ?_;rintro e w3 ⟨rfl, hw⟩;replace hw := zz hw;go_wp2_with fail;go_ret;exact ⟨by rw [show (Out.bind (Out.ok F r) fun F r => (take y d r).bind fun G r' => Out.ok (F.app G) r').good = (take y d r).good from b0d F _]; rfl, Qw.app hw.out ((Fr.only (Onl.below hb.out) (by omega)).trans hfr.out)⟩
def a1r (w : World) (b tb to tc : Nat) (T : List Tok) (d : Nat) (D : List Nd) (n : Nat) (L : Nat -> Pt) (R : Out) (wr : World) : Prop :=
 ∃ (at_ : Nat) (v : Value) (A : Fo) (ts : List Tok) (m : Nat), Sit wr b tb to tc T at_ d v (D ++ A.post) n ts ∧ ((L m d ts).bind fun G r' => .ok (A.app G) r') = R ∧ ts.length <= m ∧ Fr b w wr
def left (T : List Tok) (b : Nat) (wr : World) : Nat := T.length - (intOf ((wr.cell? ⟨b, 1, none⟩).getD undef)).toNat
theorem Gc {w : World} {b tb to tc : Nat} {T : List Tok} {at_ d : Nat} {v : Value} {D : List Nd} {n : Nat} {ts : List Tok} (h : Sit w b tb to tc T at_ d v D n ts) : left T b w = ts.length := by
 unfold left;rw [h.rd.c1, <- h.dr];simp [intOf]
theorem a18 {w : World} {b tb to tc : Nat} {T : List Tok} {at_ d : Nat} {v : Value} {D : List Nd} {n : Nat} {ts : List Tok} (h : Sit w b tb to tc T at_ d v D n ts) (s : ByteArray) (x : List UInt8) (hx : s.toList = x) {u : Value} {p : Pt} (hf : Fn u n p) (hg : Gd 0 p) (h1 : ∀ d ts F r, p d ts = .ok F r -> 1 <= F.cnt) (N : Nat) (hN : n <= N) :
  Calls prog 175 #[pR b, .string s, u] w (Fc b tb to tc T d D w (Cx x p N d ts)) := by
 obtain ⟨f, rfl, eg, hdo⟩ := hf;obtain ⟨R, hR⟩ : ∃ R, Cx x p N d ts = R := ⟨_, rfl⟩;rw [hR];have hbl := h.rd.lt;have HS : Hid (a1r w b tb to tc T d D n (Cx x p) R w) := zz ⟨at_, v, .nil, ts, N, by simpa [Fo.post] using h, by rw [<- hR]; cases Cx x p N d ts <;> rfl, by have := h.ln; omega, Fr.refl _ _⟩;replace hdo := zz hdo;replace hg := zz hg;replace h1 := zz h1;replace hx := zz hx;clear h hR;go_enter func175, ntmps175;go_wp2_with fail
 go_loopw [6] (fun v wr => v = .bool false ∧ a1r w b tb to tc T d D n (Cx x p) R wr) (fun _ wr => left T b wr)
 case atStart => exact ⟨rfl, HS.out⟩
 case round =>
  obtain ⟨rfl, at1, v1, A, ts1, m, hs, hRR, hm, hfr⟩ := hrel;obtain ⟨t, l, hts⟩ := hs.en.ne;obtain ⟨m, rfl⟩ : ∃ m', m = m' + 1 := ⟨m - 1, by rw [hts] at hm; simp at hm; omega⟩;obtain ⟨q, hq⟩ : ∃ q, sees x ts1 = q := ⟨_, rfl⟩;have H := zz (Ah hs.rd hs.next s x hx.out q hq)
  cases q with
  | true =>
   have HR : Hid (R = .ok A ts1) := zz (by rw [<- hRR]; unfold Cx; rw [if_pos hq]; simp [Out.bind, Nl]);replace hs := zz hs;replace hfr := zz hfr;clear hRR hts hq hm;go_wp2_with fail;refine H.out.mono ?_;rintro e w1 ⟨rfl, hb⟩;replace hb := zz hb;go_wp2_with fail;go_ret;rw [HR.out]
   exact ⟨rfl, ⟨at1, v1, hs.out.dr, hs.out.rd.carry hb.out⟩, hfr.out.trans (Fr.only (Onl.below hb.out) (by have := hs.out.rd.lt; omega))⟩
  | false =>
   have HD := zz (fun w' hb => hdo.out (hs.carry (w' := w') hb));obtain ⟨o, ho⟩ : ∃ o, p d ts1 = o := ⟨_, rfl⟩;have HRR : Hid ((o.bind fun F r => (Cx x p m d r).bind fun G r' => .ok (F.app G) r').bind (fun G r' => .ok (A.app G) r') = R) := zz (by rw [<- hRR, <- ho]; conv => rhs; unfold Cx; rw [if_neg (by rw [hq]; simp)]);rw [ho] at HD;have HL := zz (fun F r e => hg.out d ts1 F r (ho.trans e));have H1 := zz (fun F r e => h1.out d ts1 F r (ho.trans e));replace hs := zz hs;replace hfr := zz hfr;clear hRR hts hq ho;go_wp2_with fail;refine H.out.mono ?_;rintro e w1 ⟨rfl, hb⟩;replace hb := zz hb;go_wp2_with fail;refine (HD.out _ hb.out).mono ?_;rintro e w2 ⟨rfl, hw⟩
   cases o with
   | bad c l k =>
    replace hw := zz hw;go_wp2_with fail;go_ret;rw [<- HRR.out]
    exact ⟨rfl, hw.out.1, (hfr.out.trans (Fr.only (Onl.below hb.out) (by have := hs.out.rd.lt; omega))).trans hw.out.2⟩
   | ok F r =>
    obtain ⟨⟨at', v', hdr, hrd⟩, hf2⟩ := hw;have hS2 := zz (hs.out.then (s := 0) (HL.out F r rfl) hdr hrd);replace hf2 := zz hf2;clear hdr hrd;go_wp2_with fail
    go_roundw
    case rel =>
     refine ⟨rfl, at', v', A.app F, r, m, by rw [Bo, <- List.append_assoc]; exact hS2.out, ?_, ?_, (hfr.out.trans (Fr.only (Onl.below hb.out) (by have := hs.out.rd.lt; omega))).trans hf2.out⟩
     ·rw [<- HRR.out];show _ = (((Cx x p m d r).bind fun G r' => .ok (F.app G) r').bind fun G r' => .ok (A.app G) r')
      cases Cx x p m d r with
      | ok G r' => simp [Out.bind, Mx]
      | bad c l k => rfl
     ·have := (HL.out F r rfl).1;have := H1.out F r rfl;omega
    case measure =>
     rw [Gc hs.out, Gc hS2.out];have := (HL.out F r rfl).1;have := H1.out F r rfl;omega
end
end
section
section
open Go.RowKit Go.Sort
theorem c36 (s : ByteArray) (w : World)  (e0 : (s.toList == [43]) = true) : Calls prog 146 #[.string s] w fun e w' => e = .returned (.int .i64 1) ∧ w = w' := by
 go_enter func146, ntmps146;go_wp2_with fail;go_ret;exact ⟨rfl, rfl⟩
theorem c35 (s : ByteArray) (w : World) (e0 : (s.toList == [43]) = false) (e1 : (s.toList == [45]) = true) : Calls prog 146 #[.string s] w fun e w' => e = .returned (.int .i64 2) ∧ w = w' := by
 go_enter func146, ntmps146;go_wp2_with fail;go_ret;exact ⟨rfl, rfl⟩
theorem c34 (s : ByteArray) (w : World) (e0 : (s.toList == [43]) = false) (e1 : (s.toList == [45]) = false) (e2 : (s.toList == [42]) = true) : Calls prog 146 #[.string s] w fun e w' => e = .returned (.int .i64 3) ∧ w = w' := by
 go_enter func146, ntmps146;go_wp2_with fail;go_ret;exact ⟨rfl, rfl⟩
theorem c33 (s : ByteArray) (w : World) (e0 : (s.toList == [43]) = false) (e1 : (s.toList == [45]) = false) (e2 : (s.toList == [42]) = false) (e3 : (s.toList == [47]) = true) : Calls prog 146 #[.string s] w fun e w' => e = .returned (.int .i64 4) ∧ w = w' := by
 go_enter func146, ntmps146;go_wp2_with fail;go_ret;exact ⟨rfl, rfl⟩
theorem c32 (s : ByteArray) (w : World) (e0 : (s.toList == [43]) = false) (e1 : (s.toList == [45]) = false) (e2 : (s.toList == [42]) = false) (e3 : (s.toList == [47]) = false) (e4 : (s.toList == [37]) = true) : Calls prog 146 #[.string s] w fun e w' => e = .returned (.int .i64 5) ∧ w = w' := by
 go_enter func146, ntmps146;go_wp2_with fail;go_ret;exact ⟨rfl, rfl⟩
theorem c31 (s : ByteArray) (w : World) (e0 : (s.toList == [43]) = false) (e1 : (s.toList == [45]) = false) (e2 : (s.toList == [42]) = false) (e3 : (s.toList == [47]) = false) (e4 : (s.toList == [37]) = false) (e5 : (s.toList == [61, 61]) = true) : Calls prog 146 #[.string s] w fun e w' => e = .returned (.int .i64 6) ∧ w = w' := by
 go_enter func146, ntmps146;go_wp2_with fail;go_ret;exact ⟨rfl, rfl⟩
theorem c30 (s : ByteArray) (w : World) (e0 : (s.toList == [43]) = false) (e1 : (s.toList == [45]) = false) (e2 : (s.toList == [42]) = false) (e3 : (s.toList == [47]) = false) (e4 : (s.toList == [37]) = false) (e5 : (s.toList == [61, 61]) = false) (e6 : (s.toList == [33, 61]) = true) : Calls prog 146 #[.string s] w fun e w' => e = .returned (.int .i64 7) ∧ w = w' := by
 go_enter func146, ntmps146;go_wp2_with fail;go_ret;exact ⟨rfl, rfl⟩
theorem c3z (s : ByteArray) (w : World) (e0 : (s.toList == [43]) = false) (e1 : (s.toList == [45]) = false) (e2 : (s.toList == [42]) = false) (e3 : (s.toList == [47]) = false) (e4 : (s.toList == [37]) = false) (e5 : (s.toList == [61, 61]) = false) (e6 : (s.toList == [33, 61]) = false) (e7 : (s.toList == [60]) = true) : Calls prog 146 #[.string s] w fun e w' => e = .returned (.int .i64 8) ∧ w = w' := by
 go_enter func146, ntmps146;go_wp2_with fail;go_ret;exact ⟨rfl, rfl⟩
theorem c3y (s : ByteArray) (w : World) (e0 : (s.toList == [43]) = false) (e1 : (s.toList == [45]) = false) (e2 : (s.toList == [42]) = false) (e3 : (s.toList == [47]) = false) (e4 : (s.toList == [37]) = false) (e5 : (s.toList == [61, 61]) = false) (e6 : (s.toList == [33, 61]) = false) (e7 : (s.toList == [60]) = false) (e8 : (s.toList == [60, 61]) = true) : Calls prog 146 #[.string s] w fun e w' => e = .returned (.int .i64 9) ∧ w = w' := by
 go_enter func146, ntmps146;go_wp2_with fail;go_ret;exact ⟨rfl, rfl⟩
theorem c3x (s : ByteArray) (w : World) (e0 : (s.toList == [43]) = false) (e1 : (s.toList == [45]) = false) (e2 : (s.toList == [42]) = false) (e3 : (s.toList == [47]) = false) (e4 : (s.toList == [37]) = false) (e5 : (s.toList == [61, 61]) = false) (e6 : (s.toList == [33, 61]) = false) (e7 : (s.toList == [60]) = false) (e8 : (s.toList == [60, 61]) = false) (e9 : (s.toList == [62]) = true) : Calls prog 146 #[.string s] w fun e w' => e = .returned (.int .i64 10) ∧ w = w' := by
 go_enter func146, ntmps146;go_wp2_with fail;go_ret;exact ⟨rfl, rfl⟩
theorem c2a (s : ByteArray) (w : World) (e0 : (s.toList == [43]) = false) (e1 : (s.toList == [45]) = false) (e2 : (s.toList == [42]) = false) (e3 : (s.toList == [47]) = false) (e4 : (s.toList == [37]) = false) (e5 : (s.toList == [61, 61]) = false) (e6 : (s.toList == [33, 61]) = false) (e7 : (s.toList == [60]) = false) (e8 : (s.toList == [60, 61]) = false) (e9 : (s.toList == [62]) = false) (e10 : (s.toList == [62, 61]) = true) : Calls prog 146 #[.string s] w fun e w' => e = .returned (.int .i64 11) ∧ w = w' := by
 go_enter func146, ntmps146;go_wp2_with fail;go_ret;exact ⟨rfl, rfl⟩
theorem c19 (s : ByteArray) (w : World) (e0 : (s.toList == [43]) = false) (e1 : (s.toList == [45]) = false) (e2 : (s.toList == [42]) = false) (e3 : (s.toList == [47]) = false) (e4 : (s.toList == [37]) = false) (e5 : (s.toList == [61, 61]) = false) (e6 : (s.toList == [33, 61]) = false) (e7 : (s.toList == [60]) = false) (e8 : (s.toList == [60, 61]) = false) (e9 : (s.toList == [62]) = false) (e10 : (s.toList == [62, 61]) = false) (e11 : (s.toList == [38, 38]) = true) : Calls prog 146 #[.string s] w fun e w' => e = .returned (.int .i64 14) ∧ w = w' := by
 go_enter func146, ntmps146;go_wp2_with fail;go_ret;exact ⟨rfl, rfl⟩
theorem b4i (s : ByteArray) (w : World) (e0 : (s.toList == [43]) = false) (e1 : (s.toList == [45]) = false) (e2 : (s.toList == [42]) = false) (e3 : (s.toList == [47]) = false) (e4 : (s.toList == [37]) = false) (e5 : (s.toList == [61, 61]) = false) (e6 : (s.toList == [33, 61]) = false) (e7 : (s.toList == [60]) = false) (e8 : (s.toList == [60, 61]) = false) (e9 : (s.toList == [62]) = false) (e10 : (s.toList == [62, 61]) = false) (e11 : (s.toList == [38, 38]) = false) : Calls prog 146 #[.string s] w fun e w' => e = .returned (.int .i64 15) ∧ w = w' := by
 go_enter func146, ntmps146;go_wp2_with fail;go_ret;exact ⟨rfl, rfl⟩
theorem b8r (s : ByteArray) (x : List UInt8) (hx : s.toList = x) (w : World) : Calls prog 146 #[.string s] w fun e w' => e = .returned (.int .i64 (Lf x)) ∧ w = w' := by
 subst hx;by_cases h0 : s.toList = [43]
 ·rw [show Lf s.toList = 1 by unfold Lf; rw [if_pos h0]];exact c36 s w  (by rw [h0]; rfl)
 by_cases h1 : s.toList = [45]
 ·rw [show Lf s.toList = 2 by unfold Lf; rw [if_neg h0, if_pos h1]];exact c35 s w (by simpa using h0) (by rw [h1]; rfl)
 by_cases h2 : s.toList = [42]
 ·rw [show Lf s.toList = 3 by unfold Lf; rw [if_neg h0, if_neg h1, if_pos h2]];exact c34 s w (by simpa using h0) (by simpa using h1) (by rw [h2]; rfl)
 by_cases h3 : s.toList = [47]
 ·rw [show Lf s.toList = 4 by unfold Lf; rw [if_neg h0, if_neg h1, if_neg h2, if_pos h3]];exact c33 s w (by simpa using h0) (by simpa using h1) (by simpa using h2) (by rw [h3]; rfl)
 by_cases h4 : s.toList = [37]
 ·rw [show Lf s.toList = 5 by unfold Lf; rw [if_neg h0, if_neg h1, if_neg h2, if_neg h3, if_pos h4]];exact c32 s w (by simpa using h0) (by simpa using h1) (by simpa using h2) (by simpa using h3) (by rw [h4]; rfl)
 by_cases h5 : s.toList = [61, 61]
 ·rw [show Lf s.toList = 6 by unfold Lf; rw [if_neg h0, if_neg h1, if_neg h2, if_neg h3, if_neg h4, if_pos h5]];exact c31 s w (by simpa using h0) (by simpa using h1) (by simpa using h2) (by simpa using h3) (by simpa using h4) (by rw [h5]; rfl)
 by_cases h6 : s.toList = [33, 61]
 ·rw [show Lf s.toList = 7 by unfold Lf; rw [if_neg h0, if_neg h1, if_neg h2, if_neg h3, if_neg h4, if_neg h5, if_pos h6]];exact c30 s w (by simpa using h0) (by simpa using h1) (by simpa using h2) (by simpa using h3) (by simpa using h4) (by simpa using h5) (by rw [h6]; rfl)
 by_cases h7 : s.toList = [60]
 ·rw [show Lf s.toList = 8 by unfold Lf; rw [if_neg h0, if_neg h1, if_neg h2, if_neg h3, if_neg h4, if_neg h5, if_neg h6, if_pos h7]];exact c3z s w (by simpa using h0) (by simpa using h1) (by simpa using h2) (by simpa using h3) (by simpa using h4) (by simpa using h5) (by simpa using h6) (by rw [h7]; rfl)
 by_cases h8 : s.toList = [60, 61]
 ·rw [show Lf s.toList = 9 by unfold Lf; rw [if_neg h0, if_neg h1, if_neg h2, if_neg h3, if_neg h4, if_neg h5, if_neg h6, if_neg h7, if_pos h8]];exact c3y s w (by simpa using h0) (by simpa using h1) (by simpa using h2) (by simpa using h3) (by simpa using h4) (by simpa using h5) (by simpa using h6) (by simpa using h7) (by rw [h8]; rfl)
 by_cases h9 : s.toList = [62]
 ·rw [show Lf s.toList = 10 by unfold Lf; rw [if_neg h0, if_neg h1, if_neg h2, if_neg h3, if_neg h4, if_neg h5, if_neg h6, if_neg h7, if_neg h8, if_pos h9]];exact c3x s w (by simpa using h0) (by simpa using h1) (by simpa using h2) (by simpa using h3) (by simpa using h4) (by simpa using h5) (by simpa using h6) (by simpa using h7) (by simpa using h8) (by rw [h9]; rfl)
 by_cases h10 : s.toList = [62, 61]
 ·rw [show Lf s.toList = 11 by unfold Lf; rw [if_neg h0, if_neg h1, if_neg h2, if_neg h3, if_neg h4, if_neg h5, if_neg h6, if_neg h7, if_neg h8, if_neg h9, if_pos h10]];exact c2a s w (by simpa using h0) (by simpa using h1) (by simpa using h2) (by simpa using h3) (by simpa using h4) (by simpa using h5) (by simpa using h6) (by simpa using h7) (by simpa using h8) (by simpa using h9) (by rw [h10]; rfl)
 by_cases h11 : s.toList = [38, 38]
 ·rw [show Lf s.toList = 14 by unfold Lf; rw [if_neg h0, if_neg h1, if_neg h2, if_neg h3, if_neg h4, if_neg h5, if_neg h6, if_neg h7, if_neg h8, if_neg h9, if_neg h10, if_pos h11]];exact c19 s w (by simpa using h0) (by simpa using h1) (by simpa using h2) (by simpa using h3) (by simpa using h4) (by simpa using h5) (by simpa using h6) (by simpa using h7) (by simpa using h8) (by simpa using h9) (by simpa using h10) (by rw [h11]; rfl)
 rw [show Lf s.toList = 15 by unfold Lf; rw [if_neg h0, if_neg h1, if_neg h2, if_neg h3, if_neg h4, if_neg h5, if_neg h6, if_neg h7, if_neg h8, if_neg h9, if_neg h10, if_neg h11]];exact b4i s w (by simpa using h0) (by simpa using h1) (by simpa using h2) (by simpa using h3) (by simpa using h4) (by simpa using h5) (by simpa using h6) (by simpa using h7) (by simpa using h8) (by simpa using h9) (by simpa using h10) (by simpa using h11)
end
end
end Go.Proofs.YtoaplbljflhheaaGreat
