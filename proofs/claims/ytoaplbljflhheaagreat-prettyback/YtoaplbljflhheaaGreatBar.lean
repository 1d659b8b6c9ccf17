/-
 Contracts and plain facts on the way to PrettyBack. Conditions: as each says.
-/
import Derived.Test.YtoaplbljflhheaaGreatBao
set_option maxHeartbeats 40000000
set_option maxRecDepth 100000
set_option linter.unusedVariables false
set_option linter.unusedSimpArgs false
namespace Go.Proofs.YtoaplbljflhheaaGreat
open _root_.Go.Proofs.Tryz
section
section
open Go.RowKit Go.Sort
def Gq (t : Tok) : List Value := [.int .u8 t.kind, .int .i64 t.line, .int .i64 t.col, .int .i64 t.num, .string (bs t.text)]
def a29 (l : List Tok) : List Value := l.flatMap Gq
theorem Yo (l : List Tok) : (a29 l).length = l.length * 5 := by
 unfold a29
 induction l with
 | nil => rfl
 | cons t l ih => rw [List.flatMap_cons, List.length_append, ih]; simp [Gq]; omega
theorem Yp (l m : List Tok) : a29 (l ++ m) = a29 l ++ a29 m := by simp [a29]
theorem Tryz.info89 : (Tryz.prog.info? 89).map (fun i => (i.zero, i.size, i.bytes)) = some (some (.agg #[.int .u8 0, .int .i64 0, .int .i64 0, .int .i64 0, .string { data := #[] }]), 5, 48) := by kernel_rfl
def Qx (w : World) (B : Nat) (v : Value) (l : List Tok) : Prop := w.ownsRow B 89 5 v l.length (a29 l)
theorem Si (w : World) (B : Nat) : Qx w B (.slice none 0 0) [] := World.ownsRow_nil w B 89 5
theorem M4 {w w' : World} {B : Nat} {v : Value} {l : List Tok} (h : Qx w B v l) (hb : Below w.heap.size w w') : Qx w' B v l :=
 World.ownsRow.kept h (row := none) ⟨hb.os, hb.tape, hb.output, hb.size, fun k hk _ => hb.block k hk⟩ (by cases hv : v.ownBlock <;> simp)
theorem a30 {w : World} {B B' : Nat} {v : Value} {l : List Tok} (h : Qx w B v l) (hb : B' <= B) : Qx w B' v l := by
 refine ⟨h.1, ?_⟩;rcases h.2 with h2 | ⟨g, cap, cur, h1, h2, h3⟩
 ·exact .inl h2
 ·exact .inr ⟨g, cap, cur, h1, Nat.le_trans hb h2, h3⟩
theorem Ox {ops : Array Oper} {rest : List Oper} {o : Oper} {a : Act} {Q : Exit -> Act -> World -> Prop} {w : World} {news : Array Value} (hgd : o.guard = none) (s x : Operand)
  (ho : o.op = .call { callee := .builtin .append, args := #[s, x], argTypes := #[83, 83] }) (B : Nat) (v : Value) (l : List Tok) (t : Tok) (b : Nat) (hbw : w.heap.size = b) (hs : a.eval s = v)
  (hx : a.eval x = .slice (some ⟨b, 0, none⟩) 1 1) (hm : news.toList = Gq t) (hown : Qx w B v l) (hB : B <= w.heap.size) (hl : l.length + 1 <= 100000000)
  (h : ∀ v' w', Qx w' B v' (l ++ [t]) -> Below B w w' -> wpList prog ops Q rest (a.put o.dst v') w') : wpList prog ops Q (o :: rest) a (w.alloc (.cells news 89)) := by
 subst hbw;obtain ⟨i0, hi0, hz0, hz1, hz2⟩ := info_parts Tryz.info89;have hown' : (w.alloc (.cells news 89)).ownsRow B 89 5 v l.length (a29 l) := M4 hown (Aa w _)
 have hcell : ∀ j u, (Gq t)[j]? = some u -> (w.alloc (.cells news 89)).cell? ((⟨w.heap.size, 0, none⟩ : Addr).add j) = some u := by
  intro j u hj;rw [<- hm] at hj;rw [D7];simp at hj;simp [go_sem, hj]
 refine wpList_append_own _ hgd s x 83 ho B 89 i0 _ 5 48 underlying83 hi0 hz0 hz1 hz2 rfl (by decide) v l.length (a29 l) hs hown' ⟨w.heap.size, 0, none⟩ 1 1 (Gq t) hx (by simp [Gq]) hcell ?_ ?_ ?_ ?_ ?_
 ·intro u hu;simp only [Gq, List.mem_cons, List.not_mem_nil, or_false] at hu;rcases hu with rfl | rfl | rfl | rfl | rfl <;> rfl
 ·unfold maxLen; omega
 ·omega
 ·simp; omega
 ·intro v' w' h1 h2 _;refine h v' w' ?_ (((Aa w _).mono hB).trans ((Below.refl B _).grown h2 (by simp; omega) fun r hr => (hown'.lt r hr).1));unfold Qx;rw [List.length_append, Yp];simpa [a29] using h1
abbrev fV (f : Int × Nat × Nat) : Value := .agg #[.int .i64 f.1, .int .i64 (f.2.1 : Nat), .int .i64 (f.2.2 : Nat)]
def c3q : Res -> List Tok
 | .ok l => l
 | .error _ => []
def c0i : Res -> Int × Nat × Nat
 | .ok _ => (0, 0, 0)
 | .error f => f
def b6j (w : World) (R : Res) (e : Ending) (w' : World) : Prop := ∃ v, e = .returned (.tuple #[v, fV (c0i R)]) ∧ Qx w' w.heap.size v (c3q R) ∧ Below w.heap.size w w'
end
end
section
section
open Go.RowKit Go.Sort
abbrev b2m : Obj := Obj.cells #[Value.int IntKind.i64 0, Value.int IntKind.i64 0, Value.int IntKind.i64 0] 31
def Inv (s : ByteArray) (w : World) (R : Res) (at_ line ls : Nat) (v : Value) (acc : List Tok) (w' : World) : Prop :=
 at_ <= s.size ∧ ls <= at_ ∧ line <= at_ + 1 ∧ acc.length <= at_ ∧ (F8 (s.data.toList.drop at_) line (at_ - ls + 1)).map (acc ++ ·) = R ∧ Qx w' (w.heap.size + 1) v acc ∧ Below (w.heap.size + 1) (w.alloc b2m) w'
theorem Inv.lf {s : ByteArray} {w w' : World} {R : Res} {at_ line ls : Nat} {v : Value} {acc : List Tok} (h : Inv s w R at_ line ls v acc w') (hlt : at_ < s.size) (hc : s[at_] = 10) : Inv s w R (at_ + 1) (line + 1) (at_ + 1) v acc w' := by
 obtain ⟨h1, h2, h3, h4, h5, h6, h7⟩ := h;refine ⟨hlt, Nat.le_refl _, by omega, by omega, ?_, h6, h7⟩;rw [Au s at_ hlt, hc, R3] at h5;rw [<- h5, Nat.sub_self]
theorem Inv.blank {s : ByteArray} {w w' : World} {R : Res} {at_ line ls : Nat} {v : Value} {acc : List Tok} (h : Inv s w R at_ line ls v acc w') (hlt : at_ < s.size) (hc : s[at_] = 32 ∨ s[at_] = 9 ∨ s[at_] = 13) : Inv s w R (at_ + 1) line ls v acc w' := by
 obtain ⟨h1, h2, h3, h4, h5, h6, h7⟩ := h;refine ⟨hlt, by omega, by omega, by omega, ?_, h6, h7⟩;rw [Au s at_ hlt, Eg _ _ _ _ hc] at h5;rw [<- h5, show at_ + 1 - ls + 1 = at_ - ls + 1 + 1 by omega]
theorem Inv.note {s : ByteArray} {w w' : World} {R : Res} {at_ line ls : Nat} {v : Value} {acc : List Tok} (h : Inv s w R at_ line ls v acc w') (hlt : at_ < s.size) (hc : s[at_] = 35) (n : Nat) (hn : Bz nlf (s.data.toList.drop at_) = n) :
  1 <= n ∧ at_ + n <= s.size ∧ Inv s w R (at_ + n) line ls v acc w' := by
 obtain ⟨h1, h2, h3, h4, h5, h6, h7⟩ := h;have hle := I3 nlf (s.data.toList.drop at_);rw [hn, List.length_drop, Ad] at hle;rw [Au s at_ hlt, hc] at hn h5;rw [O2] at h5;rw [G9 (by decide)] at hn;refine ⟨by omega, by omega, by omega, by omega, by omega, by omega, ?_, h6, h7⟩;rw [<- h5, <- hn, List.drop_drop];congr 2
 ·congr 1; omega
 ·omega
theorem Inv.tok {s : ByteArray} {w w' w2 : World} {R : Res} {at_ line ls : Nat} {v v2 : Value} {acc : List Tok} {o : One} (h : Inv s w R at_ line ls v acc w') (hlt : at_ < s.size) (hc : ¬ Fy s[at_]) (ho : one (s.data.toList.drop at_) = o) (he : o.err = 0) :
  1 <= o.size ∧ at_ + o.size <= s.size ∧ (Qx w2 (w.heap.size + 1) v2 (acc ++ [⟨o.kind, line, at_ - ls + 1, o.num, o.text⟩]) -> Below (w.heap.size + 1) w' w2 ->
   Inv s w R (at_ + o.size) line ls v2 (acc ++ [⟨o.kind, line, at_ - ls + 1, o.num, o.text⟩]) w2) := by
 obtain ⟨h1, h2, h3, h4, h5, h6, h7⟩ := h;have hk := Pk (s.data.toList.drop at_) (by rw [Au s at_ hlt]; simp) (by rw [ho]; exact he);rw [ho, List.length_drop, Ad] at hk;refine ⟨hk.1, by omega, fun ho2 hb2 => ⟨by omega, by omega, by omega, by simp; omega, ?_, ho2, h7.trans hb2⟩⟩;have hd := Au s at_ hlt;rw [hd] at ho h5;rw [Oa _ _ _ _ hc (by rw [ho]; exact he), ho, <- hd, List.drop_drop] at h5;rw [<- h5, show at_ + o.size - ls + 1 = at_ - ls + 1 + o.size by omega]
 cases F8 (List.drop (at_ + o.size) s.data.toList) line (at_ - ls + 1 + o.size) with
 | ok l => simp [Except.map]
 | error f => rfl
theorem Inv.bad {s : ByteArray} {w w' : World} {R : Res} {at_ line ls : Nat} {v : Value} {acc : List Tok} {o : One} (h : Inv s w R at_ line ls v acc w') (hlt : at_ < s.size) (hc : ¬ Fy s[at_]) (ho : one (s.data.toList.drop at_) = o) (he : ¬ o.err = 0) :
  R = .error (o.err, line, at_ - ls + 1) := by
 obtain ⟨h1, h2, h3, h4, h5, h6, h7⟩ := h;have hd := Au s at_ hlt;rw [hd] at ho h5;rw [R4 _ _ _ _ hc (by rw [ho]; exact he), ho] at h5;rw [<- h5]; rfl
theorem Inv.fin {s : ByteArray} {w w' : World} {R : Res} {at_ line ls : Nat} {v : Value} {acc : List Tok} (h : Inv s w R at_ line ls v acc w') (hlt : ¬ at_ < s.size) : R = .ok (acc ++ [⟨8, line, at_ - ls + 1, 0, []⟩]) := by
 obtain ⟨h1, h2, h3, h4, h5, h6, h7⟩ := h;rw [Co s at_ (by omega), L6] at h5;rw [<- h5]; rfl
theorem Vl {w w' : World} (h : Below (w.heap.size + 1) (w.alloc b2m) w') : w'.cell? ⟨w.heap.size, 0, none⟩ = some (.int .i64 0) ∧ w'.cell? ⟨w.heap.size, 1, none⟩ = some (.int .i64 0) ∧ w'.cell? ⟨w.heap.size, 2, none⟩ = some (.int .i64 0) ∧ ∀ o, w'.frozen? ⟨w.heap.size, o, none⟩ = false := by
 have hz : (w.alloc b2m).heap.size = w.heap.size + 1 := by simp
 rw [<- hz] at h;refine ⟨?_, ?_, ?_, fun o => ?_⟩
 ·rw [(Cr h).1 _ _ (by omega)]; simp [go_sem]
 ·rw [(Cr h).1 _ _ (by omega)]; simp [go_sem]
 ·rw [(Cr h).1 _ _ (by omega)]; simp [go_sem]
 ·rw [(Cr h).2 _ _ (by omega)]; simp [go_sem]
theorem Vm {w w' : World} (h : Below (w.heap.size + 1) (w.alloc b2m) w') : Below w.heap.size w w' := (Aa w b2m).trans (h.mono (by omega))
theorem Sh {w : World} {B : Nat} {v u : Value} {l : List Tok} {a : Addr} (h : Qx w B v l) (ha : a.block < B) : Qx (w.setCell a u) B v l := ownsRow_setCell_below h ha u
def c4z (s : ByteArray) (w : World) (R : Res) (a' : Act) (w' : World) : Prop :=
 ∃ (at_ line ls : Nat) (v : Value) (acc : List Tok), (Inv s w R at_ line ls v acc w') ∧ ∃ u8 u9 u10 u11 u12 u13 u14 u15 u16 u17 u18 u19 u20 u21 u22 u23 u24 u25 u26 u27 u28 u29 u30 u31 u32 u33 u34 u35 u36 u37 u38 u39 u40 u41 u42 u43 u44 u45 u46 u47 u48 u49 u50 u51 u52 u53 u54 u55 u56 u57 u58 u59 u60 u61 u62 u63 u64 u65 u66 u67 u68 u69 u70 u71 u72 u73 u74 u75 u76 u77 u78 : Value, a' = { tmps := #[.string s, undef, .slice none 0 0, .pointer (some ⟨w.heap.size, 0, none⟩), v, .int .i64 (at_ : Nat), .int .i64 (line : Nat), .int .i64 (ls : Nat), u8, u9, u10, u11, u12, u13, u14, u15, u16, u17, u18, u19, u20, u21, u22, u23, u24, u25, u26, u27, u28, u29, u30, u31, u32, u33, u34, u35, u36, u37, u38, u39, u40, u41, u42, u43, u44, u45, u46, u47, u48, u49, u50, u51, u52, u53, u54, u55, u56, u57, u58, u59, u60, u61, u62, u63, u64, u65, u66, u67, u68, u69, u70, u71, u72, u73, u74, u75, u76, u77, u78], defers := [] }
theorem Wg (s : ByteArray) (w : World) (hs : s.size <= 65536) (R : Res) (hR : Hid (F8 s.data.toList 1 1 = R)) : Calls prog 62 #[.string s] w (b6j w R) := by
 go_enter func62, ntmps62;go_wp2;refine Ep 0 (c4z s w R) (fun a' _ => s.size - (intOf (a'.tmps.getD 5 undef)).toNat) rfl ?_ ?_
 ·clear hR;rintro a' wr ⟨at_, line, ls, v, acc, hI, u8, u9, u10, u11, u12, u13, u14, u15, u16, u17, u18, u19, u20, u21, u22, u23, u24, u25, u26, u27, u28, u29, u30, u31, u32, u33, u34, u35, u36, u37, u38, u39, u40, u41, u42, u43, u44, u45, u46, u47, u48, u49, u50, u51, u52, u53, u54, u55, u56, u57, u58, u59, u60, u61, u62, u63, u64, u65, u66, u67, u68, u69, u70, u71, u72, u73, u74, u75, u76, u77, u78, rfl⟩;have h1 := hI.1;have h2 := hI.2.1;have h3 := hI.2.2.1;have h4 := hI.2.2.2.1;have ho := zz hI.2.2.2.2.2.1;have hb := zz hI.2.2.2.2.2.2;have hbs : w.heap.size + 1 <= wr.heap.size := by have := hb.out.size; simpa using this
  obtain ⟨cl, hcl⟩ : ∃ cl, at_ - ls + 1 = cl := ⟨_, rfl⟩;have hcl1 : (at_ : Int) - ls + 1 = cl := by omega
  by_cases hlt : at_ < s.size
  case neg =>
   have HR := zz (hI.fin hlt);rw [hcl] at HR;have heq : ((at_ : Int) == (s.size : Int)) = true := by rw [beq_iff_eq]; omega
   clear hI hcl;go_wp2_with (at_builtin; refine Ox rfl _ _ rfl (w.heap.size + 1) v acc ⟨8, line, cl, 0, []⟩ wr.heap.size rfl rfl rfl rfl ho.out hbs (by omega) ?_; intro v2 w2 ho2 hb2; obtain ⟨c0, c1, c2, c3⟩ := Vl (hb.out.trans hb2); replace ho2 := zz ho2; replace hb2 := zz hb2);simp only [Exit.jump];refine bodyPost_ret (v := .tuple #[v2, fV (0, 0, 0)]) (by simp [results, results62, go_sem, c0, c1, c2]) rfl ?_;have hbb := Vm (hb.out.trans hb2.out);rw [HR.out];exact ⟨v2, rfl, a30 (Sh (Sh (Sh ho2.out (by simp)) (by simp)) (by simp)) (by omega), by go_grown⟩
  have hne : ((at_ : Int) == (s.size : Int)) = false := by rw [beq_eq_false_iff_ne]; omega
  by_cases g10 : s[at_] = 10
  ·have HI := zz (hI.lf hlt g10);have e10 : ((s[at_].toNat : Int) == 10) = true := by rw [g10]; rfl
   clear hI hcl g10;go_wp2
   go_step3
   refine ⟨rfl, ⟨at_ + 1, line + 1, at_ + 1, v, acc, HI.out, ?_⟩, ?_⟩
   ·exact ⟨_, _, _, _, _, _, _, _, _, _, _, _, _, _, _, _, _, _, _, _, _, _, _, _, _, _, _, _, _, _, _, _, _, _, _, _, _, _, _, _, _, _, _, _, _, _, _, _, _, _, _, _, _, _, _, _, _, _, _, _, _, _, _, _, _, _, _, _, _, _, _, rfl⟩
   ·simp [intOf]; omega
  have e10 : ((s[at_].toNat : Int) == 10) = false := Av (n := 10) (by decide) g10;by_cases g32 : s[at_] = 32
  ·have HI := zz (hI.blank hlt (.inl g32));have e32 : ((s[at_].toNat : Int) == 32) = true := by rw [g32]; rfl
   clear hI hcl g10 g32;go_wp2
   go_step3
   refine ⟨rfl, ⟨at_ + 1, line, ls, v, acc, HI.out, ?_⟩, ?_⟩
   ·exact ⟨_, _, _, _, _, _, _, _, _, _, _, _, _, _, _, _, _, _, _, _, _, _, _, _, _, _, _, _, _, _, _, _, _, _, _, _, _, _, _, _, _, _, _, _, _, _, _, _, _, _, _, _, _, _, _, _, _, _, _, _, _, _, _, _, _, _, _, _, _, _, _, rfl⟩
   ·simp [intOf]; omega
  have e32 : ((s[at_].toNat : Int) == 32) = false := Av (n := 32) (by decide) g32;by_cases g9 : s[at_] = 9
  ·have HI := zz (hI.blank hlt (.inr (.inl g9)));have e9 : ((s[at_].toNat : Int) == 9) = true := by rw [g9]; rfl
   clear hI hcl g10 g32 g9;go_wp2
   go_step3
   refine ⟨rfl, ⟨at_ + 1, line, ls, v, acc, HI.out, ?_⟩, ?_⟩
   ·exact ⟨_, _, _, _, _, _, _, _, _, _, _, _, _, _, _, _, _, _, _, _, _, _, _, _, _, _, _, _, _, _, _, _, _, _, _, _, _, _, _, _, _, _, _, _, _, _, _, _, _, _, _, _, _, _, _, _, _, _, _, _, _, _, _, _, _, _, _, _, _, _, _, rfl⟩
   ·simp [intOf]; omega
  have e9 : ((s[at_].toNat : Int) == 9) = false := Av (n := 9) (by decide) g9;by_cases g13 : s[at_] = 13
  ·have HI := zz (hI.blank hlt (.inr (.inr g13)));have e13 : ((s[at_].toNat : Int) == 13) = true := by rw [g13]; rfl
   clear hI hcl g10 g32 g9 g13;go_wp2
   go_step3
   refine ⟨rfl, ⟨at_ + 1, line, ls, v, acc, HI.out, ?_⟩, ?_⟩
   ·exact ⟨_, _, _, _, _, _, _, _, _, _, _, _, _, _, _, _, _, _, _, _, _, _, _, _, _, _, _, _, _, _, _, _, _, _, _, _, _, _, _, _, _, _, _, _, _, _, _, _, _, _, _, _, _, _, _, _, _, _, _, _, _, _, _, _, _, _, _, _, _, _, _, rfl⟩
   ·simp [intOf]; omega
  have e13 : ((s[at_].toNat : Int) == 13) = false := Av (n := 13) (by decide) g13;by_cases g35 : s[at_] = 35
  ·obtain ⟨n, hn⟩ : ∃ n, Bz nlf (s.data.toList.drop at_) = n := ⟨_, rfl⟩;obtain ⟨k1, k2, HI⟩ := hI.note hlt g35 n hn;replace HI := zz HI;have e35 : ((s[at_].toNat : Int) == 35) = true := by rw [g35]; rfl
   have HN := zz (fun w => a0l (s.extract at_ s.size) (by rw [<- Ad, Hg, List.length_drop, Ad]; omega) n (by rw [Hg]; exact hn) w);clear hI hcl g10 g32 g9 g13 g35 hn;go_wp2_with fail;refine (HN.out _).mono ?_;rintro e w' ⟨rfl, rfl⟩;go_wp2
   go_step3
   refine ⟨rfl, ⟨at_ + n, line, ls, v, acc, HI.out, ?_⟩, ?_⟩
   ·exact ⟨_, _, _, _, _, _, _, _, _, _, _, _, _, _, _, _, _, _, _, _, _, _, _, _, _, _, _, _, _, _, _, _, _, _, _, _, _, _, _, _, _, _, _, _, _, _, _, _, _, _, _, _, _, _, _, _, _, _, _, _, _, _, _, _, _, _, _, _, _, _, _, rfl⟩
   ·simp [intOf]; omega
  have e35 : ((s[at_].toNat : Int) == 35) = false := Av (n := 35) (by decide) g35;have hgap : ¬ Fy s[at_] := by unfold Fy; simp [g10, g32, g9, g13, g35]
  obtain ⟨o, hone⟩ : ∃ o, one (s.data.toList.drop at_) = o := ⟨_, rfl⟩;have hxs : (s.extract at_ s.size).size = s.size - at_ := by rw [<- Ad, Hg, List.length_drop, Ad]
  have HT := zz (fun w => a2c (s.extract at_ s.size) w (by omega) (by omega));rw [Hg, hone] at HT;clear g10 g32 g9 g13 g35 hxs;by_cases herr : o.err = 0
  ·obtain ⟨k1, k2, -⟩ := hI.tok (w2 := wr) (v2 := v) hlt hgap hone herr;have HI := zz (fun w2 v2 => (hI.tok (w2 := w2) (v2 := v2) hlt hgap hone herr).2.2);rw [hcl] at HI;obtain ⟨err, sz, kd, nm, tx⟩ := o;simp only at herr k1 k2 HI;subst herr;clear hI hcl hgap hone;go_wp2_with fail;refine (HT.out _).mono ?_;rintro e w1 ⟨rfl, hb1⟩;have ho1 := zz (M4 ho.out hb1);have hbs1 := hb1.size;replace hb1 := zz (hb1.mono hbs);go_wp2_with (at_builtin; refine Ox rfl _ _ rfl (w.heap.size + 1) v acc ⟨kd, line, cl, nm, tx⟩ (w1.heap.size + 1) (by simp) rfl rfl rfl (M4 ho1.out (by go_grown)) (by simp; omega) (by omega) ?_; intro v2 w2 ho2 hb2; replace ho2 := zz ho2; replace hb2 := zz ((hb1.out.trans ((by go_grown : Below w1.heap.size w1 _).mono (Nat.le_trans hbs hbs1))).trans hb2))
   go_step3
   refine ⟨rfl, ⟨at_ + sz, line, ls, v2, _, HI.out _ _ ho2.out hb2.out, ?_⟩, ?_⟩
   ·exact ⟨_, _, _, _, _, _, _, _, _, _, _, _, _, _, _, _, _, _, _, _, _, _, _, _, _, _, _, _, _, _, _, _, _, _, _, _, _, _, _, _, _, _, _, _, _, _, _, _, _, _, _, _, _, _, _, _, _, _, _, _, _, _, _, _, _, _, _, _, _, _, _, rfl⟩
   ·simp [intOf]; omega
  ·have HR := zz (hI.bad hlt hgap hone herr);rw [hcl] at HR;obtain ⟨err, sz, kd, nm, tx⟩ := o;simp only at herr HR;have herr2 : (err != 0) = true := by simpa using herr
   clear hI hcl hgap hone herr;go_wp2_with fail;refine (HT.out _).mono ?_;rintro e w1 ⟨rfl, hb1⟩;obtain ⟨c0, c1, c2, c3⟩ := Vl (hb.out.trans (hb1.mono hbs));have d0 := fun O => Ae c0 O
   have d1 := fun O => Ae c1 O
   have d2 := fun O => Ae c2 O
   have d3 := fun o O => Na c0 (c3 o) O
   have hbs1 := hb1.size;replace hb1 := zz (hb1.mono hbs);go_wp2;simp only [Exit.jump];refine bodyPost_ret (v := .tuple #[.slice none 0 0, fV (err, line, cl)]) (by simp [results, results62, go_sem, d0, d1, d2]) rfl ?_;have hbb := Vm (hb.out.trans hb1.out);rw [HR.out];exact ⟨_, rfl, Si _ _, by go_grown⟩
 ·intro F;go_wp2
  go_step3
  rename_i hK;apply hK;exact F _ _ ⟨0, 1, 0, _, [], ⟨Nat.zero_le _, Nat.le_refl _, Nat.le_refl _, Nat.le_refl _, by rw [<- hR.out]; simp only [List.drop_zero, Nat.sub_self, Nat.zero_add]; cases F8 s.data.toList 1 1 <;> rfl, Si _ _, Below.refl _ _⟩, _, _, _, _, _, _, _, _, _, _, _, _, _, _, _, _, _, _, _, _, _, _, _, _, _, _, _, _, _, _, _, _, _, _, _, _, _, _, _, _, _, _, _, _, _, _, _, _, _, _, _, _, _, _, _, _, _, _, _, _, _, _, _, _, _, _, _, _, _, _, _, rfl⟩
theorem Wf (s : ByteArray) (w : World) (hs : (65536 : Int) < s.size) : Calls prog 62 #[.string s] w (b6j w (.error (3, 0, 0))) := by
 go_enter func62, ntmps62;go_wp2
 go_step3
 go_wp2;rw [Exit.noGoto_ret];refine bodyPost_ret (v := .tuple #[.slice none 0 0, fV (3, 0, 0)]) (by simp [results, results62, go_sem]) rfl ?_;exact ⟨_, rfl, Si _ _, by go_grown⟩
end
end
end Go.Proofs.YtoaplbljflhheaaGreat
