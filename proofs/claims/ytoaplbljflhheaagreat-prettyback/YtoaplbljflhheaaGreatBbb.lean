/-
 Contracts and plain facts on the way to PrettyBack. Conditions: as each says.
-/
import Derived.Deep.RegionHeld3
import Derived.Test.YtoaplbljflhheaaGreatBax
set_option maxHeartbeats 40000000
set_option maxRecDepth 100000
set_option linter.unusedVariables false
set_option linter.unusedSimpArgs false
namespace Go.Proofs.YtoaplbljflhheaaGreat
open _root_.Go.Proofs.Tryz
section
section
open Go.RowKit Go.Sort
theorem Zb {w : World} {b tb to tc : Nat} {T : List Tok} {at_ d : Nat} {v : Value} {D : List Nd} {n : Nat} {ts : List Tok} (h : Sit w b tb to tc T at_ d v D n ts) {u : Value} {p : Pt} (hf : Fn u n p) (hg : Gd 0 p) (N : Nat) (hN : n <= N) :
  Calls prog 177 #[pR b, u] w (Fc b tb to tc T d D w (Ee p N d ts)) := by
 obtain ⟨f, rfl, eg, hdo⟩ := hf;have hbl := h.rd.lt;obtain ⟨q, hq⟩ : ∃ q, sees [41] ts = q := ⟨_, rfl⟩;have H0 := zz (Ah h.rd h.next { data := #[41] } [41] (by rw [ByteArray.toList_eq]) q hq)
 cases q with
 | true =>
  unfold Ee Hp;rw [if_pos hq];replace h := zz h;clear hdo eg hq;go_enter func177, ntmps177;go_wp2_with fail;refine H0.out.mono ?_;rintro e w1 ⟨rfl, hb⟩;replace hb := zz hb;go_wp2_with fail;go_ret
  exact ⟨rfl, ⟨at_, v, h.out.dr, by simpa [Fo.post] using h.out.rd.carry hb.out⟩, Fr.only (Onl.below hb.out) (by omega)⟩
 | false =>
  unfold Ee Hp;rw [if_neg (by rw [hq]; simp)];obtain ⟨R, hR⟩ : ∃ R, I8 p N d ts = R := ⟨_, rfl⟩;rw [hR];have HS : Hid (∀ w1, Below w.heap.size w w1 -> a1r w b tb to tc T d D n (I8 p) R w1) := zz fun w1 hb => ⟨at_, v, .nil, ts, N, by simpa [Fo.post] using h.carry hb, by rw [<- hR]; cases I8 p N d ts <;> rfl, by have := h.ln; omega, Fr.only (Onl.below hb) (by omega)⟩
  replace hdo := zz hdo;replace hg := zz hg;clear h hR hq;go_enter func177, ntmps177;go_wp2_with fail;refine H0.out.mono ?_;rintro e w0 ⟨rfl, hb0⟩;replace hb0 := zz hb0;go_wp2_with fail
  go_loopw [4] (fun v wr => v = .bool false ∧ a1r w b tb to tc T d D n (I8 p) R wr) (fun _ wr => left T b wr)
  case atStart => exact ⟨rfl, HS.out _ hb0.out⟩
  case round =>
   obtain ⟨rfl, at1, v1, A, ts1, m, hs, hRR, hm, hfr⟩ := hrel;obtain ⟨t, l, hts⟩ := hs.en.ne;obtain ⟨m, rfl⟩ : ∃ m', m = m' + 1 := ⟨m - 1, by rw [hts] at hm; simp at hm; omega⟩;have HD := zz (hdo.out hs);obtain ⟨o, ho⟩ : ∃ o, p d ts1 = o := ⟨_, rfl⟩;have HRR : Hid ((o.bind fun F r => if sees [44] r = true then (I8 p m d r.tail).bind fun G r' => .ok (F.app G) r' else .ok F r).bind (fun G r' => .ok (A.app G) r') = R) := zz (by rw [<- hRR, <- ho]; rfl);rw [ho] at HD;have HL := zz (fun F r e => hg.out d ts1 F r (ho.trans e));replace hs := zz hs;replace hfr := zz hfr;clear hRR hts ho;go_wp2_with fail;refine HD.out.mono ?_;rintro e w2 ⟨rfl, hw⟩
   cases o with
   | bad c l k =>
    replace hw := zz hw;go_wp2_with fail;go_ret;rw [<- HRR.out]
    exact ⟨rfl, hw.out.1, hfr.out.trans hw.out.2⟩
   | ok F r =>
    obtain ⟨⟨at', v', hdr, hrd⟩, hf2⟩ := hw;have hS2 := hs.out.then (s := 0) (HL.out F r rfl) hdr hrd;obtain ⟨q, hq⟩ : ∃ q, sees [44] r = q := ⟨_, rfl⟩;have H2 := zz (Ah hS2.rd hS2.next { data := #[44] } [44] (by rw [ByteArray.toList_eq]) q hq);replace hf2 := zz (hfr.out.trans hf2)
    cases q with
    | false =>
     have HR : Hid (R = .ok (A.app F) r) := zz (by rw [<- HRR.out]; simp [Out.bind, hq]);replace hS2 := zz hS2;clear hdr hrd hq;go_wp2_with fail;refine H2.out.mono ?_;rintro e w3 ⟨rfl, hb⟩;replace hb := zz hb;go_wp2_with fail;go_ret;rw [HR.out]
     exact ⟨rfl, ⟨at', v', hS2.out.dr, by rw [Bo, <- List.append_assoc]; exact hS2.out.rd.carry hb.out⟩, hf2.out.trans (Fr.only (Onl.below hb.out) (by have := hS2.out.rd.lt; omega))⟩
    | true =>
     have hk : (hd r).kind ≠ 8 := by
      obtain ⟨t, l, rfl, hk, _⟩ := B0 hq;simp [hd]; omega
     have HT := zz (Hs hq);have hlt : at' < T.length := (List.getElem?_eq_some_iff.1 hS2.next).1;have htn := hS2.rd.tn;have hn : at' < 1000000 := by omega
     have HRR2 : Hid ((((I8 p m d r.tail).bind fun G r' => .ok (F.app G) r').bind fun G r' => .ok (A.app G) r') = R) := zz (by rw [<- HRR.out]; simp [Out.bind, hq]);have hS2' := zz hS2;clear hdr hrd hq hlt htn hS2;go_wp2_with fail;refine H2.out.mono ?_;rintro e w3 ⟨rfl, hb⟩;have c1 := (hS2'.out.rd.carry hb).c1;have fz := (hS2'.out.rd.carry hb).fz;replace hb := zz hb;go_wp2_with fail;have hS3 := (hS2'.out.carry hb.out).tail ((hS2'.out.carry hb.out).rd.bump (at' + 1)) hk;rw [show ((at' + 1 : Nat) : Int) = (at' : Int) + 1 by omega] at hS3
     go_roundw
     case rel =>
      refine ⟨rfl, at' + 1, v', A.app F, r.tail, m, by rw [Bo, <- List.append_assoc]; exact hS3.up (by omega), ?_, ?_, (hf2.out.trans (Fr.only (Onl.below hb.out) (by have := hS2'.out.rd.lt; omega))).trans (Fr.only (Onl.set _ _ _ _) (by have := (hS2'.out.carry hb.out).rd.lt; omega))⟩
      ·rw [<- HRR2.out]
       cases I8 p m d r.tail with
       | ok G r' => simp [Out.bind, Mx]
       | bad c l k => rfl
      ·have := (HL.out F r rfl).1;have := HT.out.1;omega
     case measure =>
      rw [Gc hs.out, Gc hS3];have := (HL.out F r rfl).1;have := HT.out.1;omega
def Rz (w : World) (g : Nat) (S : List (List UInt8)) : Prop := w.heap[g]? = some (.cells (S.map fun x => Value.string (bs x)).toArray 9 (0, 0))
theorem Rz.cell {w : World} {g : Nat} {S : List (List UInt8)} (h : Rz w g S) {i : Nat} {x : List UInt8} (hi : S[i]? = some x) : w.cell? ⟨g, i, none⟩ = some (.string (bs x)) := by
 rw [cell_of_row w g i _ 9 (0, 0) h];simp [hi]
theorem Rz.below {w w' : World} {g : Nat} {S : List (List UInt8)} (h : Rz w g S) (hb : Below w.heap.size w w') : Rz w' g S := (hb.block g (Ay h)).trans h
theorem Rz.fr {w w' : World} {b g : Nat} {S : List (List UInt8)} (h : Rz w g S) (hb : Fr b w w') (hg : g ≠ b) : Rz w' g S := hb.cells _ _ _ _ h hg (by decide)
theorem b42 {w : World} {b tb to tc : Nat} {T : List Tok} {at_ d : Nat} {v : Value} {D : List Nd} {n : Nat} {ts : List Tok} (h : Sit w b tb to tc T at_ d v D n ts) {g : Nat} {S : List (List UInt8)} (hS : Rz w g S) (c k : Nat) (hk : S.length = k) (hl : k <= 1000) (q : Bool) (hq : anyS S ts = q) :
  Calls prog 145 #[.slice (some ⟨g, 0, none⟩) k c, .func (.func 98) #[pR b] #[]] w fun e w' => (∃ z : Int, e = .returned (.int .i64 z) ∧ decide (0 <= z) = q) ∧ Below w.heap.size w w' := by
 replace h := zz h;replace hS := zz hS;replace hq := zz hq;replace hk := zz hk;go_enter func145, ntmps145;go_wp2_with fail
 go_loopw [8] (fun j wr => ∃ i : Nat, i <= k ∧ j = .int .i64 i ∧ Below w.heap.size w wr ∧ ∀ i' x, i' < i -> S[i']? = some x -> sees x ts = false) (fun j _ => k - (intOf j).toNat)
 case atStart => exact ⟨0, Nat.zero_le _, rfl, Below.refl _ _, fun i' x h => absurd h (by omega)⟩
 case round =>
  obtain ⟨i, hi, rfl, hb, hno⟩ := hrel;replace hno := zz hno;by_cases hlt : i < k
  ·obtain ⟨x, hx⟩ : ∃ x, S[i]? = some x := ⟨S[i]'(by rw [hk.out]; exact hlt), by simp [hk.out, hlt]⟩;have hc := (hS.out.below hb).cell hx;obtain ⟨X, hX⟩ : ∃ X, bs x = X := ⟨_, rfl⟩;rw [hX] at hc;obtain ⟨q2, hq2⟩ : ∃ q2, sees x ts = q2 := ⟨_, rfl⟩;have HC := zz (Ah (h.out.carry hb).rd (h.out.carry hb).next X x (by rw [<- hX, A4]) q2 hq2);replace hb := zz hb
   cases q2 with
   | true =>
    obtain rfl : q = true := by
     rw [<- hq.out];exact List.any_eq_true.2 ⟨x, List.mem_of_getElem? hx, hq2⟩
    clear hx hX hq2;go_wp2_with fail;refine HC.out.mono ?_;rintro e w1 ⟨rfl, hb1⟩;replace hb1 := zz hb1;go_wp2_with fail;go_ret
    exact ⟨⟨_, rfl, by simp⟩, Ab hb.out hb1.out⟩
   | false =>
    have HN := zz (show ∀ i' x, i' < i + 1 -> S[i']? = some x -> sees x ts = false from fun i' y h hy => by
     by_cases e : i' = i
     ·subst e; rw [hx] at hy; cases hy; exact hq2
     ·exact hno.out i' y (by omega) hy)
    clear hx hX hq2;go_wp2_with fail;refine HC.out.mono ?_;rintro e w1 ⟨rfl, hb1⟩;replace hb1 := zz hb1;go_wp2_with fail
    go_roundw
    case rel => exact ⟨i + 1, hlt, by go_num, Ab hb.out hb1.out, HN.out⟩
    case measure => simp [intOf]; omega
  ·obtain rfl : q = false := by
    rw [<- hq.out, Bool.eq_false_iff];intro hy;obtain ⟨x, hx, hs⟩ := List.any_eq_true.1 hy;obtain ⟨j, hj, rfl⟩ := List.getElem_of_mem hx;rw [hno.out j _ (by rw [hk.out] at hj; omega) (List.getElem?_eq_getElem hj)] at hs;cases hs
   replace hb := zz hb;go_wp2_with fail;go_ret;exact ⟨⟨_, rfl, by decide⟩, hb.out⟩
theorem Ni {w : World} {b tb to tc : Nat} {T : List Tok} {at_ d : Nat} {v : Value} {D : List Nd} {n : Nat} {ts : List Tok} (h : Sit w b tb to tc T at_ d v D n ts) {g : Nat} {S : List (List UInt8)} (hS : Rz w g S) (c k : Nat) (hk : S.length = k) (hl : k <= 1000) (q : Bool) (hq : anyS S ts = q) :
  Calls prog 101 #[.slice (some ⟨g, 0, none⟩) k c, .func (.func 98) #[pR b] #[]] w fun e w' => e = .returned (.bool q) ∧ Below w.heap.size w w' := by
 have H := zz (b42 h hS c k hk hl q hq);clear h hS hq;go_enter func101, ntmps101;go_wp2_with fail;refine H.out.mono ?_;rintro e w' ⟨⟨z, rfl, hz⟩, hb⟩;replace hb := zz hb;go_wp2_with fail;go_ret;exact ⟨rfl, hb.out⟩
end
end
section
section
open Go.RowKit Go.Sort
def SAt (w : World) (L kd ln cl : Nat) (nm : Int) (X : ByteArray) (fr : Nat) : Prop := w.heap[L]? = some (.cells #[.int .u8 kd, .int .i64 ln, .int .i64 cl, .int .i64 nm, .string X, .int .i64 fr] 93 (0, 0))
theorem SAt.below {w w' : World} {L kd ln cl : Nat} {nm : Int} {X : ByteArray} {fr : Nat} (h : SAt w L kd ln cl nm X fr) (hb : Below w.heap.size w w') : SAt w' L kd ln cl nm X fr := (hb.block L (Ay h)).trans h
theorem SAt.fr {w w' : World} {b L kd ln cl : Nat} {nm : Int} {X : ByteArray} {fr : Nat} (h : SAt w L kd ln cl nm X fr) (hb : Fr b w w') (hg : L ≠ b) : SAt w' L kd ln cl nm X fr := hb.cells _ _ _ _ h hg (by decide)
theorem SAt.made (w : World) (kd ln cl : Nat) (nm : Int) (X : ByteArray) (fr : Nat) : SAt (w.alloc (.cells #[.int .u8 kd, .int .i64 ln, .int .i64 cl, .int .i64 nm, .string X, .int .i64 fr] 93)) w.heap.size kd ln cl nm X fr := heap_alloc_new w _
structure SCells (w : World) (L kd ln cl : Nat) (nm : Int) (X : ByteArray) (fr : Nat) : Prop where
 c0 : w.cell? ⟨L, 0, none⟩ = some (.int .u8 kd)
 c1 : w.cell? ⟨L, 1, none⟩ = some (.int .i64 ln)
 c2 : w.cell? ⟨L, 2, none⟩ = some (.int .i64 cl)
 c3 : w.cell? ⟨L, 3, none⟩ = some (.int .i64 nm)
 c4 : w.cell? ⟨L, 4, none⟩ = some (.string X)
 c5 : w.cell? ⟨L, 5, none⟩ = some (.int .i64 fr)
theorem SAt.at {w : World} {L kd ln cl : Nat} {nm : Int} {X : ByteArray} {fr : Nat} (h : SAt w L kd ln cl nm X fr) : SCells w L kd ln cl nm X fr :=
 ⟨by rw [cell_of_row w L 0 _ 93 (0, 0) h]; rfl, by rw [cell_of_row w L 1 _ 93 (0, 0) h]; rfl, by rw [cell_of_row w L 2 _ 93 (0, 0) h]; rfl, by rw [cell_of_row w L 3 _ 93 (0, 0) h]; rfl, by rw [cell_of_row w L 4 _ 93 (0, 0) h]; rfl, by rw [cell_of_row w L 5 _ 93 (0, 0) h]; rfl⟩
theorem Js (w : World) : Below w.heap.size w w.drew := (Below.refl _ _).drew
theorem Zc {w : World} {b tb to tc : Nat} {T : List Tok} {at_ d : Nat} {v : Value} {D : List Nd} {F : Fo} {n : Nat} {ts : List Tok} (h : Sit w b tb to tc T at_ d v (D ++ F.post) n ts) (hk : (hd ts).kind ≠ 8) {u : Value} {p : Pt} (hf : Fn u (n - 1) p) (hg : Gd 0 p) (dn : Nat) (hdn : D.length = dn) :
  Calls prog 102 #[pR b, .int .i64 dn, u] w (Fc b tb to tc T d D w (Ds p F d ts)) := by
 obtain ⟨f, rfl, eg, hdo⟩ := hf;obtain ⟨⟨kd, ln, cl, nm, tx⟩, ht⟩ : ∃ t, hd ts = t := ⟨_, rfl⟩;have hbl := h.rd.lt;have hlt : at_ < T.length := (List.getElem?_eq_some_iff.1 h.next).1;have htn := h.rd.tn;have hn : at_ < 1000000 := by omega
 have H := zz (h.next_at ht w (Below.refl _ _));obtain ⟨X, hX⟩ : ∃ X, bs tx = X := ⟨_, rfl⟩;rw [hX] at H;obtain ⟨m, hm⟩ : ∃ m, Lf tx = m := ⟨_, rfl⟩;have HO := zz (fun w => b8r X tx (by rw [<- hX, A4]) w);rw [hm] at HO;unfold Ds;obtain ⟨o, ho⟩ : ∃ o, p d ts.tail = o := ⟨_, rfl⟩;have HD : Hid (∀ w', Sit w' b tb to tc T (at_ + 1) d v (D ++ F.post) (n - 1) ts.tail -> Calls prog f #[pR b] w' (Fc b tb to tc T d (D ++ F.post) w' (p d ts.tail))) := zz fun w' h => hdo h
 have HL : Hid (∀ G r, o = .ok G r -> D.length + F.cnt + G.cnt + r.length + 1 <= 500000) := zz fun G r e => by
  have h1 := (hg d ts.tail G r (ho.trans e)).1;have h2 := h.rm;obtain ⟨t, l, rfl⟩ := h.en.ne;rw [List.length_append, Ao] at h2;simp at h1 h2 ⊢;omega
 rw [ho] at HD ⊢;rw [ht, hm];have hs := zz h;replace hdn := zz hdn;replace hk := zz hk;clear h ho hdo htn hlt ht hg hm
 cases o with
 | bad c l k =>
  go_enter func102, ntmps102;go_wp2_with fail;refine H.out.mono ?_;rintro e w1 ⟨rfl, hb⟩;have c1 := (hs.out.rd.carry hb).c1;have fz := (hs.out.rd.carry hb).fz;have hbl1 := (hs.out.rd.carry hb).lt;have HT := (hs.out.carry hb).tail ((hs.out.carry hb).rd.bump (at_ + 1)) hk.out;rw [show ((at_ + 1 : Nat) : Int) = (at_ : Int) + 1 by omega] at HT;replace HT := zz HT;replace hb := zz hb;go_wp2_with fail;obtain ⟨W, hW⟩ : ∃ W, W = (w1.setCell ⟨b, 1, none⟩ (.int .i64 ((at_ : Int) + 1))).alloc (.cells #[.int .u8 kd, .int .i64 ln, .int .i64 cl, .int .i64 nm, .string X, .int .i64 dn] 93) := ⟨_, rfl⟩;rw [<- hW];have HW : Hid (Sit W.drew b tb to tc T (at_ + 1) d v (D ++ F.post) (n - 1) ts.tail) := zz (by rw [hW]; exact HT.out.carry (Aa _ _).drew);have HF : Hid (Fr b w W.drew) := zz (by rw [hW]; exact ((Fr.only (Onl.below hb.out) (by omega)).trans (Fr.only (Onl.set _ _ _ _) (by omega))).trans (Fr.only (Onl.below (Aa _ _).drew) (by simp; omega)));have HM : Hid (SAt W.drew w1.heap.size kd ln cl nm X dn) := zz (by rw [hW]; have := (SAt.made (w1.setCell ⟨b, 1, none⟩ (.int .i64 ((at_ : Int) + 1))) kd ln cl nm X dn).below (Js _); simpa using this);have HC := zz (HD.out W.drew HW.out);clear hW HT HD c1 fz;replace HC : Hid (Calls prog f #[pR b] W.drew fun e w' => e = .returned (.bool false) ∧ (Rf w' b c l k ∧ Fr b W.drew w')) := zz HC.out;refine wp_region_noPanic (wp_region_held (S := fun w' => W.heap.size <= w'.heap.size) (by kernel_rfl) ?_);have hS : W.heap.size <= W.drew.heap.size := Nat.le_refl _;refine wpAnyH_take (i := 0) (v := .func (.func f) #[] #[]) rfl (by kernel_rfl) (by kernel_rfl) (by kernel_rfl) (fun _ _ _ h => h) (Or.inl ⟨by rfl, fun w hSw => by go_simp⟩) hS ?_;simp only [Act.put, List.getElem_toArray, List.getElem_cons_succ, List.getElem_cons_zero, List.setIfInBounds_toArray, List.set_cons_zero, List.set_cons_succ];refine wpAnyH_take (i := 1) (v := pR b) rfl (by kernel_rfl) (by kernel_rfl) (by kernel_rfl) (fun _ _ _ h => h) (Or.inl ⟨by rfl, fun w hSw => by go_simp⟩) hS ?_;simp only [Act.put, List.getElem_toArray, List.getElem_cons_succ, List.getElem_cons_zero, List.setIfInBounds_toArray, List.set_cons_zero, List.set_cons_succ];refine wpAnyH_all (rs := [2]) (by kernel_rfl) (by simp) ?_;intro i hi;obtain rfl : i = 2 := by simpa using hi
  refine Bw rfl rfl ?_;unfold Oper.wp;go_simp;refine HC.out.mono ?_;rintro e w2 ⟨rfl, hw⟩;replace hw := zz hw;have hS2 : W.heap.size <= w2.heap.size := hw.out.2.size;refine ⟨hS2, ?_⟩;refine wpAnyH_take (i := 3) (v := .bool false) rfl (by kernel_rfl) (by kernel_rfl) (by kernel_rfl) (fun _ _ _ h => h) (Or.inl ⟨by rfl, fun w hSw => by go_simp⟩) hS2 ?_;simp only [Act.put, List.getElem_toArray, List.getElem_cons_succ, List.getElem_cons_zero, List.setIfInBounds_toArray, List.set_cons_zero, List.set_cons_succ];refine wpAnyH_take (i := 4) (v := undef) rfl (by kernel_rfl) (by kernel_rfl) (by kernel_rfl) (fun _ _ _ h => h) (Or.inr ⟨by rfl, rfl⟩) hS2 ?_;simp only [Act.put, List.getElem_toArray, List.getElem_cons_succ, List.getElem_cons_zero, List.setIfInBounds_toArray, List.set_cons_zero, List.set_cons_succ];refine wpAnyH_take (i := 5) (v := undef) rfl (by kernel_rfl) (by kernel_rfl) (by kernel_rfl) (fun _ _ _ h => h) (Or.inr ⟨by rfl, rfl⟩) hS2 ?_;simp only [Act.put, List.getElem_toArray, List.getElem_cons_succ, List.getElem_cons_zero, List.setIfInBounds_toArray, List.set_cons_zero, List.set_cons_succ];refine wpAnyH_take (i := 6) (v := undef) rfl (by kernel_rfl) (by kernel_rfl) (by kernel_rfl) (fun _ _ _ h => h) (Or.inr ⟨by rfl, rfl⟩) hS2 ?_;simp only [Act.put, List.getElem_toArray, List.getElem_cons_succ, List.getElem_cons_zero, List.setIfInBounds_toArray, List.set_cons_zero, List.set_cons_succ];refine wpAnyH_take (i := 7) (v := undef) rfl (by kernel_rfl) (by kernel_rfl) (by kernel_rfl) (fun _ _ _ h => h) (Or.inr ⟨by rfl, rfl⟩) hS2 ?_;simp only [Act.put, List.getElem_toArray, List.getElem_cons_succ, List.getElem_cons_zero, List.setIfInBounds_toArray, List.set_cons_zero, List.set_cons_succ];refine wpAnyH_take (i := 8) (v := undef) rfl (by kernel_rfl) (by kernel_rfl) (by kernel_rfl) (fun _ _ _ h => h) (Or.inr ⟨by rfl, rfl⟩) hS2 ?_;simp only [Act.put, List.getElem_toArray, List.getElem_cons_succ, List.getElem_cons_zero, List.setIfInBounds_toArray, List.set_cons_zero, List.set_cons_succ];refine wpAnyH_take (i := 9) (v := undef) rfl (by kernel_rfl) (by kernel_rfl) (by kernel_rfl) (fun _ _ _ h => h) (Or.inr ⟨by rfl, rfl⟩) hS2 ?_;simp only [Act.put, List.getElem_toArray, List.getElem_cons_succ, List.getElem_cons_zero, List.setIfInBounds_toArray, List.set_cons_zero, List.set_cons_succ];refine wpAnyH_take (i := 10) (v := undef) rfl (by kernel_rfl) (by kernel_rfl) (by kernel_rfl) (fun _ _ _ h => h) (Or.inr ⟨by rfl, rfl⟩) hS2 ?_;simp only [Act.put, List.getElem_toArray, List.getElem_cons_succ, List.getElem_cons_zero, List.setIfInBounds_toArray, List.set_cons_zero, List.set_cons_succ];refine wpAnyH_take (i := 11) (v := undef) rfl (by kernel_rfl) (by kernel_rfl) (by kernel_rfl) (fun _ _ _ h => h) (Or.inr ⟨by rfl, rfl⟩) hS2 ?_;simp only [Act.put, List.getElem_toArray, List.getElem_cons_succ, List.getElem_cons_zero, List.setIfInBounds_toArray, List.set_cons_zero, List.set_cons_succ];refine wpAnyH_take (i := 12) (v := .bool false) rfl (by kernel_rfl) (by kernel_rfl) (by kernel_rfl) (fun _ _ _ h => h) (Or.inl ⟨by rfl, fun w hSw => by go_simp⟩) hS2 ?_;simp only [Act.put, List.getElem_toArray, List.getElem_cons_succ, List.getElem_cons_zero, List.setIfInBounds_toArray, List.set_cons_zero, List.set_cons_succ];refine wpAnyH_take (i := 13) (v := .bool false) rfl (by kernel_rfl) (by kernel_rfl) (by kernel_rfl) (fun _ _ _ h => h) (Or.inl ⟨by rfl, fun w hSw => by go_simp⟩) hS2 ?_;refine wpAnyH_done (by kernel_rfl) ?_ _;refine NoPanic.normal ?_;simp only [Act.put, List.getElem_toArray, List.getElem_cons_succ, List.getElem_cons_zero, List.setIfInBounds_toArray, List.set_cons_zero, List.set_cons_succ];go_wp2_with fail;go_ret
  exact ⟨rfl, hw.out.1, HF.out.trans hw.out.2⟩
 | ok G r =>
  go_enter func102, ntmps102;go_wp2_with fail;refine H.out.mono ?_;rintro e w1 ⟨rfl, hb⟩;have c1 := (hs.out.rd.carry hb).c1;have fz := (hs.out.rd.carry hb).fz;have hbl1 := (hs.out.rd.carry hb).lt;have HT := (hs.out.carry hb).tail ((hs.out.carry hb).rd.bump (at_ + 1)) hk.out;rw [show ((at_ + 1 : Nat) : Int) = (at_ : Int) + 1 by omega] at HT;replace HT := zz HT;replace hb := zz hb;go_wp2_with fail;obtain ⟨W, hW⟩ : ∃ W, W = (w1.setCell ⟨b, 1, none⟩ (.int .i64 ((at_ : Int) + 1))).alloc (.cells #[.int .u8 kd, .int .i64 ln, .int .i64 cl, .int .i64 nm, .string X, .int .i64 dn] 93) := ⟨_, rfl⟩;rw [<- hW];have HW : Hid (Sit W.drew b tb to tc T (at_ + 1) d v (D ++ F.post) (n - 1) ts.tail) := zz (by rw [hW]; exact HT.out.carry (Aa _ _).drew);have HF : Hid (Fr b w W.drew) := zz (by rw [hW]; exact ((Fr.only (Onl.below hb.out) (by omega)).trans (Fr.only (Onl.set _ _ _ _) (by omega))).trans (Fr.only (Onl.below (Aa _ _).drew) (by simp; omega)));have HM : Hid (SAt W.drew w1.heap.size kd ln cl nm X dn) := zz (by rw [hW]; have := (SAt.made (w1.setCell ⟨b, 1, none⟩ (.int .i64 ((at_ : Int) + 1))) kd ln cl nm X dn).below (Js _); simpa using this);have HC := zz (HD.out W.drew HW.out);clear hW HT HD c1 fz
  go_region_with (first
   | (go_at_call 146; refine (HO.out _).mono ?_; rintro e w3 ⟨rfl, rfl⟩)
   | (go_at_call 67; refine HA.out.mono ?_; rintro e w4 ⟨rfl, ha⟩)
   | (refine HC.out.mono ?_; rintro e w2 ⟨rfl, hw⟩; obtain ⟨⟨at', v', hdr, hrd⟩, hf2⟩ := hw; obtain ⟨m0, m1, m2, m3, m4, m5⟩ := (HM.out.fr hf2 (by omega)).at; have HA := zz (Cu hrd kd ln cl dn nm X 31 0 0 0 m { data := #[] } (F.cnt + G.cnt) (by rw [List.length_append, List.length_append, Ao, Ao, hdn.out]; omega) (by have := HL.out G r rfl; rw [List.length_append, List.length_append, Ao, Ao]; omega)); replace hf2 := zz hf2; replace hdr := zz hdr; clear hrd))
  all_goals (go_wp2_with fail; go_ret; obtain ⟨⟨v2, hr2⟩, hf3⟩ := ha; exact ⟨rfl, ⟨at', v2, hdr.out, by rw [show ((Fo.cons ⟨31, ln, cl, m, []⟩ (F.app G) Fo.nil).post) = (F.post ++ G.post) ++ [⟨31, ln, cl, (F.cnt + G.cnt : Nat), m, bs []⟩] by simp [Fo.post, Bo, Inf.nd, Bx], <- List.append_assoc, <- List.append_assoc]; exact hr2⟩, (HF.out.trans hf2.out).trans hf3⟩)
end
end
section
section
open Go.RowKit Go.Sort
def c1a (w : World) (b tb to tc : Nat) (T : List Tok) (d : Nat) (D : List Nd) (n g : Nat) (S : List (List UInt8)) (p : Pt) (R : Out) (v : Value) (wr : World) : Prop :=
 (v = .bool true ∧ ∃ (at_ : Nat) (v : Value) (F : Fo) (ts : List Tok) (m : Nat), Sit wr b tb to tc T at_ d v (D ++ F.post) n ts ∧ C4 p S m F d ts = R ∧ ts.length <= m ∧ Rz wr g S ∧ Fr b w wr) ∨
 (v = .bool false ∧ ∃ c l k, R = .bad c l k ∧ Rf wr b c l k ∧ Fr b w wr)
def okM (v : Value) (k : Nat) : Nat := match v with
 | .bool true => k + 1
 | _ => 0
theorem a08 {w w' : World} {b tb to tc : Nat} {T : List Tok} {at_ d : Nat} {v : Value} {D : List Nd} {n : Nat} {F G : Fo} {S : List (List UInt8)} {ts r : List Tok} {p : Pt} (h : Sit w b tb to tc T at_ d v (D ++ F.post) n ts) (hg : Gd 0 p) (hs : anyS S ts = true) (e : Ds p F d ts = .ok G r)
  {at' : Nat} {v' : Value} (hdr : T.drop at' = r) (hr : Rd w' b tb to tc T at' d v' (D ++ G.post)) : Sit w' b tb to tc T at' d v' (D ++ G.post) n r ∧ r.length + 1 <= ts.length := by
 obtain ⟨F1, r1, e1, e2⟩ := Af e;cases e2;have hl := (a4t hs).trans (hg _ _ _ _ e1);have h1 := hl.1;have h2 := h.ln;have h3 := h.rm;rw [List.length_append, Ao] at h3;refine ⟨⟨hr, hdr, hl.2.1 h.en, by omega, ?_, h.dp⟩, by omega⟩;rw [List.length_append, Ao];simp [Fo.cnt, Bx];omega
theorem Te {w : World} {b tb to tc : Nat} {T : List Tok} {at_ d : Nat} {v : Value} {D : List Nd} {n : Nat} {ts : List Tok} (h : Sit w b tb to tc T at_ d v D n ts) {u : Value} {p : Pt} (hf : Fn u n p) (hg : Gd 0 p) {g : Nat} {S : List (List UInt8)} (hS : Rz w g S) (hgb : g ≠ b) (c k : Nat) (hk : S.length = k) (hkl : k <= 1000) (N : Nat) (hN : n <= N) :
  Calls prog 68 #[pR b, u, .slice (some ⟨g, 0, none⟩) k c] w (Fc b tb to tc T d D w (Dc p S N d ts)) := by
 have hbl := h.rd.lt;have HJ := zz (fun (w1 : World) (at1 : Nat) (v1 : Value) (F : Fo) (ts1 : List Tok) (h1 : Sit w1 b tb to tc T at1 d v1 (D ++ F.post) n ts1) (hk1 : (hd ts1).kind ≠ 8) => Zc h1 hk1 (hf.mono (m := n - 1) (by omega)) hg D.length rfl);obtain ⟨f, rfl, eg, hdo⟩ := hf;obtain ⟨a, cap, hv⟩ := A6 h.rd.own;obtain ⟨dn, hdn⟩ : ∃ dn, D.length = dn := ⟨_, rfl⟩;have c3 := h.rd.c3;rw [hv, hdn] at c3;rw [hdn] at HJ;have HD := zz (hdo h);unfold Dc;obtain ⟨o, ho⟩ : ∃ o, p d ts = o := ⟨_, rfl⟩;rw [ho] at HD ⊢;have HL := zz (fun F r e => hg d ts F r (ho.trans e));have hs := zz h;replace hS := zz hS;replace hk := zz hk;replace hg := zz hg;clear h hdo ho hdn hv
 cases o with
 | bad c l k =>
  go_enter func68, ntmps68;go_wp2_with fail;refine HD.out.mono ?_;rintro e w1 ⟨rfl, hw⟩;replace hw := zz hw;go_wp2_with fail;refine wp_loop_rounds 1 ?_;rw [rounds_succ];go_wp2_with fail;go_ret
  exact ⟨rfl, hw.out⟩
 | ok F r =>
  obtain ⟨R, hR⟩ : ∃ R, C4 p S N F d r = R := ⟨_, rfl⟩;rw [show (Out.bind (Out.ok F r) fun F r => C4 p S N F d r) = R from hR]
  have HS2 : Hid (∀ w1, (Qw b tb to tc T d D w (.ok F r) w1) -> c1a w b tb to tc T d D n g S p R (.bool true) w1) := zz (by
   rintro w1 ⟨⟨at', v', hdr, hrd⟩, hfr⟩;have h2 := hs.out.then (s := 0) (HL.out F r rfl) hdr hrd
   exact .inl ⟨rfl, at', v', F, r, N, h2.up (by omega), hR, by have := h2.ln; omega, hS.out.fr hfr hgb, hfr⟩)
  clear hR;go_enter func68, ntmps68;go_wp2_with fail;refine HD.out.mono ?_;rintro e w1 ⟨rfl, hw⟩;replace hw := zz (HS2.out w1 hw);go_wp2_with fail
  go_loopw [8] (fun v wr => c1a w b tb to tc T d D n g S p R v wr) (fun v wr => okM v (left T b wr))
  case atStart => exact hw.out
  case round =>
   clear hw HD HS2 HL;rcases hrel with ⟨rfl, at1, v1, F1, ts1, m, hs1, hRR, hm, hS1, hfr⟩ | ⟨rfl, c', l', k', hRR, hrf, hfr⟩
   ·obtain ⟨t, l, hts⟩ := hs1.en.ne;obtain ⟨m, rfl⟩ : ∃ m', m = m' + 1 := ⟨m - 1, by rw [hts] at hm; simp at hm; omega⟩;obtain ⟨q, hq⟩ : ∃ q, anyS S ts1 = q := ⟨_, rfl⟩;have HC := zz (Ni hs1 hS1 c k hk.out hkl q hq)
    cases q with
    | false =>
     have HR : Hid (R = .ok F1 ts1) := zz (by rw [<- hRR]; unfold C4; rw [if_neg (by rw [hq]; simp)]);replace hs1 := zz hs1;replace hfr := zz hfr;clear hRR hts hq hm hS1;go_wp2_with fail;refine HC.out.mono ?_;rintro e w2 ⟨rfl, hb⟩;replace hb := zz hb;go_wp2_with fail;go_ret;rw [HR.out]
     exact ⟨rfl, ⟨at1, v1, hs1.out.dr, hs1.out.rd.carry hb.out⟩, hfr.out.trans (Fr.only (Onl.below hb.out) (by have := hs1.out.rd.lt; omega))⟩
    | true =>
     have hk1 : (hd ts1).kind ≠ 8 := by
      obtain ⟨t, l, rfl, hk⟩ := Qh hq;simp [hd]; omega
     have HJ1 := zz (fun w2 hb => HJ.out w2 at1 v1 F1 ts1 (hs1.carry hb) hk1);obtain ⟨o, ho⟩ : ∃ o, Ds p F1 d ts1 = o := ⟨_, rfl⟩;have HRR : Hid ((o.bind fun G r => C4 p S m G d r) = R) := zz (by rw [<- hRR, <- ho]; conv => rhs; unfold C4; rw [if_pos hq]);rw [ho] at HJ1;replace hs1 := zz hs1;replace hfr := zz hfr;replace hS1 := zz hS1;replace hq := zz hq;replace ho := zz ho;clear hRR hts;go_wp2_with fail;refine HC.out.mono ?_;rintro e w2 ⟨rfl, hb⟩;replace hb := zz hb;go_wp2_with fail;refine (HJ1.out _ hb.out).mono ?_;rintro e w3 ⟨rfl, hw3⟩;replace hw3 := zz hw3;have HF := zz (hfr.out.trans (Fr.only (Onl.below hb.out) (by have := hs1.out.rd.lt; omega)))
     cases o with
     | bad c2 l2 k2 =>
      go_wp2_with fail
      go_roundw
      case rel => exact .inr ⟨rfl, c2, l2, k2, HRR.out.symm, hw3.out.1, HF.out.trans hw3.out.2⟩
      case measure => simp [okM, Out.good]
     | ok G r2 =>
      obtain ⟨⟨at', v', hdr, hrd⟩, hf2⟩ := hw3.out;obtain ⟨hs3, hl3⟩ := a08 (hs1.out.carry hb.out) hg.out hq.out ho.out hdr hrd;have HS3 : Hid (Rz w3 g S) := zz ((hS1.out.below hb.out).fr hf2 hgb);replace hs3 := zz hs3;replace hf2 := zz hf2;clear hdr hrd;go_wp2_with fail
      go_roundw
      case rel => exact .inl ⟨rfl, at', v', G, r2, m, hs3.out, HRR.out, by omega, HS3.out, HF.out.trans hf2.out⟩
      case measure =>
       rw [Gc hs3.out, Gc hs1.out];simp [okM, Out.good];omega
   ·replace hRR := zz hRR;replace hrf := zz hrf;replace hfr := zz hfr;go_wp2_with fail;go_ret;rw [hRR.out];exact ⟨rfl, hrf.out, hfr.out⟩
theorem b13 {w : World} {b tb to tc : Nat} {T : List Tok} {at_ d : Nat} {v : Value} {D : List Nd} {n : Nat} {ts : List Tok} (h : Sit w b tb to tc T at_ d v D n ts) {u : Value} {p : Pt} (hf : Fn u n p) (hg : Gd 0 p) {g : Nat} {S : List (List UInt8)} (hS : Rz w g S) (hgb : g ≠ b) (c k : Nat) (hk : S.length = k) (hkl : k <= 1000) :
  Calls prog 147 #[pR b, u, .slice (some ⟨g, 0, none⟩) k c] w (Fc b tb to tc T d D w (Ld p S d ts)) := by
 have hbl := h.rd.lt;have HJ := zz (fun (w1 : World) (at1 : Nat) (v1 : Value) (F : Fo) (ts1 : List Tok) (h1 : Sit w1 b tb to tc T at1 d v1 (D ++ F.post) n ts1) (hk1 : (hd ts1).kind ≠ 8) => Zc h1 hk1 (hf.mono (m := n - 1) (by omega)) hg D.length rfl);obtain ⟨f, rfl, eg, hdo⟩ := hf;obtain ⟨a, cap, hv⟩ := A6 h.rd.own;obtain ⟨dn, hdn⟩ : ∃ dn, D.length = dn := ⟨_, rfl⟩;have c3 := h.rd.c3;rw [hv, hdn] at c3;rw [hdn] at HJ;have HD := zz (hdo h);unfold Ld;obtain ⟨o, ho⟩ : ∃ o, p d ts = o := ⟨_, rfl⟩;rw [ho] at HD ⊢;have HL := zz (fun F r e => hg d ts F r (ho.trans e));have hs := zz h;replace hS := zz hS;replace hk := zz hk;clear h hdo ho hdn hv
 cases o with
 | bad c l k =>
  go_enter func147, ntmps147;go_wp2_with fail;refine HD.out.mono ?_;rintro e w1 ⟨rfl, hw⟩;replace hw := zz hw;go_wp2_with fail;go_ret
  exact ⟨rfl, hw.out⟩
 | ok F r =>
  obtain ⟨q, hq⟩ : ∃ q, anyS S r = q := ⟨_, rfl⟩
  cases q with
  | false =>
   rw [show (Out.bind (Out.ok F r) fun F r => if anyS S r = true then Ds p F d r else .ok F r) = .ok F r by simp [Out.bind, hq]];replace hq := zz hq;go_enter func147, ntmps147;go_wp2_with fail;refine HD.out.mono ?_;rintro e w1 ⟨rfl, ⟨at', v', hdr, hrd⟩, hfr⟩;have hs2 := hs.out.then (s := 0) (HL.out F r rfl) hdr hrd;have HC := zz (Ni hs2 (hS.out.fr hfr hgb) c k hk.out hkl false hq.out);replace hs2 := zz hs2;replace hfr := zz hfr;clear hdr hrd;go_wp2_with fail;refine HC.out.mono ?_;rintro e w2 ⟨rfl, hb⟩;replace hb := zz hb;go_wp2_with fail;go_ret
   exact ⟨rfl, ⟨at', v', hs2.out.dr, hs2.out.rd.carry hb.out⟩, hfr.out.trans (Fr.only (Onl.below hb.out) (by have := hs2.out.rd.lt; omega))⟩
  | true =>
   rw [show (Out.bind (Out.ok F r) fun F r => if anyS S r = true then Ds p F d r else .ok F r) = Ds p F d r by simp [Out.bind, hq]]
   have hk1 : (hd r).kind ≠ 8 := by
    obtain ⟨t, l, rfl, hk⟩ := Qh hq;simp [hd]; omega
   replace hq := zz hq;replace hk1 := zz hk1;go_enter func147, ntmps147;go_wp2_with fail;refine HD.out.mono ?_;rintro e w1 ⟨rfl, ⟨at', v', hdr, hrd⟩, hfr⟩;have hs2 := hs.out.then (s := 0) (HL.out F r rfl) hdr hrd;have HC := zz (Ni hs2 (hS.out.fr hfr hgb) c k hk.out hkl true hq.out);have HJ1 := zz (fun w2 hb => HJ.out w2 at' v' F r (hs2.carry hb) hk1.out);replace hs2 := zz hs2;replace hfr := zz hfr;clear hdr hrd;go_wp2_with fail;refine HC.out.mono ?_;rintro e w2 ⟨rfl, hb⟩;replace hb := zz hb;go_wp2_with fail;refine (HJ1.out _ hb.out).mono ?_;rintro e w3 ⟨rfl, hw3⟩;replace hw3 := zz hw3;go_wp2_with fail;go_ret;exact ⟨rfl, hw3.out.back (hfr.out.trans (Fr.only (Onl.below hb.out) (by have := hs2.out.rd.lt; omega)))⟩
end
end
end Go.Proofs.YtoaplbljflhheaaGreat
