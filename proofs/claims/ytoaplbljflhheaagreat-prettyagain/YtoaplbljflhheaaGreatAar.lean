/-
 Contracts and plain facts on the way to PrettyAgain. Conditions: as each says.
-/
import Derived.Test.YtoaplbljflhheaaGreatAal
import Derived.Test.YtoaplbljflhheaaGreatAan
set_option maxHeartbeats 40000000
set_option maxRecDepth 100000
set_option linter.unusedVariables false
set_option linter.unusedSimpArgs false
namespace Go.Proofs.YtoaplbljflhheaaGreat
open _root_.Go.Proofs.Tryz
section
open Go.RowKit Go.Sort
def Rz (r : Int) : Bool := (decide (97 ≤ r) && decide (r ≤ 122)) || decide (r = 95)
def Ve (r : Int) : Bool := decide (65 ≤ r) && decide (r ≤ 90)
def a34 (r : Int) : Bool := Rz r || Ve r || (decide (48 ≤ r) && decide (r ≤ 57))
theorem Pq (r : Int) (w : World) (p : Bool) (hp : Rz r = p) : Calls prog 106 #[.int .i32 r] w fun e w' => e = .returned (.bool p) ∧ w = w' := by
 subst hp;by_cases a1 : 97 ≤ r
 ·by_cases a2 : r ≤ 122
  ·rw [show Rz r = true by simp [Rz, a1, a2]];go_enter func106, ntmps106;go_wp2;go_ret;exact ⟨rfl, rfl⟩
  ·rw [show Rz r = false by simp [Rz, a2]; omega];have e : (r == 95) = false := by rw [beq_eq_false_iff_ne]; omega
   go_enter func106, ntmps106;go_wp2;go_ret;exact ⟨rfl, rfl⟩
 ·by_cases a3 : r = 95
  ·rw [show Rz r = true by simp [Rz, a3]];subst a3;go_enter func106, ntmps106;go_wp2;go_ret;exact ⟨rfl, rfl⟩
  ·rw [show Rz r = false by simp [Rz, a1, a3]];have e : (r == 95) = false := by rw [beq_eq_false_iff_ne]; exact a3
   clear a3;go_enter func106, ntmps106;go_wp2;go_ret;exact ⟨rfl, rfl⟩
theorem Ps (r : Int) (w : World) (p : Bool) (hp : Ve r = p) : Calls prog 105 #[.int .i32 r] w fun e w' => e = .returned (.bool p) ∧ w = w' := by
 subst hp;by_cases a1 : 65 ≤ r
 ·by_cases a2 : r ≤ 90
  ·rw [show Ve r = true by simp [Ve, a1, a2]];go_enter func105, ntmps105;go_wp2;go_ret;exact ⟨rfl, rfl⟩
  ·rw [show Ve r = false by simp [Ve, a2]];go_enter func105, ntmps105;go_wp2;go_ret;exact ⟨rfl, rfl⟩
 ·rw [show Ve r = false by simp [Ve, a1]];go_enter func105, ntmps105;go_wp2;go_ret;exact ⟨rfl, rfl⟩
theorem Us (r : Int) (w : World) (p : Bool) (hp : a34 r = p) : Calls prog 149 #[.int .i32 r] w fun e w' => e = .returned (.bool p) ∧ w = w' := by
 subst hp;have HS := zz (Pq r w);have HG := zz (Ps r w)
 cases h1 : Rz r with
 | true =>
  rw [show a34 r = true by simp [a34, h1]];replace h1 := zz h1;go_enter func149, ntmps149;go_wp2_with (go_at_call 106; refine (HS.out true h1.out).mono ?_; rintro e w' ⟨rfl, rfl⟩);go_ret
  exact ⟨rfl, rfl⟩
 | false =>
  cases h2 : Ve r with
  | true =>
   rw [show a34 r = true by simp [a34, h2]];replace h1 := zz h1;replace h2 := zz h2;go_enter func149, ntmps149;go_wp2_with (first | (go_at_call 106; refine (HS.out false h1.out).mono ?_; rintro e w' ⟨rfl, rfl⟩) | (go_at_call 105; refine (HG.out true h2.out).mono ?_; rintro e w' ⟨rfl, rfl⟩));go_ret
   exact ⟨rfl, rfl⟩
  | false =>
   rw [show a34 r = (decide (48 ≤ r) && decide (r ≤ 57)) by simp [a34, h1, h2]];replace h1 := zz h1;replace h2 := zz h2;by_cases a1 : 48 ≤ r
   ·by_cases a2 : r ≤ 57
    ·rw [show (decide (48 ≤ r) && decide (r ≤ 57)) = true by simp [a1, a2]];go_enter func149, ntmps149;go_wp2_with (first | (go_at_call 106; refine (HS.out false h1.out).mono ?_; rintro e w' ⟨rfl, rfl⟩) | (go_at_call 105; refine (HG.out false h2.out).mono ?_; rintro e w' ⟨rfl, rfl⟩));go_ret;exact ⟨rfl, rfl⟩
    ·rw [show (decide (48 ≤ r) && decide (r ≤ 57)) = false by simp [a2]];have e2 : decide (r ≤ 57) = false := by simpa using a2
     go_enter func149, ntmps149;go_wp2_with (first | (go_at_call 106; refine (HS.out false h1.out).mono ?_; rintro e w' ⟨rfl, rfl⟩) | (go_at_call 105; refine (HG.out false h2.out).mono ?_; rintro e w' ⟨rfl, rfl⟩));go_ret;exact ⟨rfl, rfl⟩
   ·rw [show (decide (48 ≤ r) && decide (r ≤ 57)) = false by simp [a1]];go_enter func149, ntmps149;go_wp2_with (first | (go_at_call 106; refine (HS.out false h1.out).mono ?_; rintro e w' ⟨rfl, rfl⟩) | (go_at_call 105; refine (HG.out false h2.out).mono ?_; rintro e w' ⟨rfl, rfl⟩));go_ret;exact ⟨rfl, rfl⟩
theorem Pg (c : UInt8) : a34 (c.toNat : Nat) = nam c := by
 have h : (c = 95) ↔ c.toNat = 95 := ⟨fun e => by rw [e]; rfl, fun e => UInt8.toNat_inj.1 (by rw [e]; rfl)⟩;rw [Bool.eq_iff_iff];simp [a34, Rz, Ve, nam, sml, grt, dgt, h];omega
theorem Uh {r : Int} (h : 128 ≤ r) : a34 r = false := by simp [a34, Rz, Ve]; omega
theorem a8x {c : UInt8} (h : 128 ≤ c.toNat) : nam c = false := by rw [← Pg]; exact Uh (by omega)
def Lk (q : Int → Bool) (l : List UInt8) : Bool := !l.isEmpty && q (l.headD 0).toNat && l.all nam
theorem To {q : Int → Bool} {s : ByteArray} {k : Nat} (hk : k < s.size) (h : nam s[k] = false) : Lk q s.data.toList = false := by
 unfold Lk;rw [Bool.and_eq_false_iff];right;rw [List.all_eq_false];refine ⟨s[k], ?_, by simp [h]⟩;have := a9n s k hk;exact List.mem_of_getElem? this
theorem Zy {q : Int → Bool} {s : ByteArray} (hk : 0 < s.size) (h : q (s[0].toNat : Nat) = false) : Lk q s.data.toList = false := by
 unfold Lk;rw [Dc s hk, h];simp
theorem Zz {q : Int → Bool} {s : ByteArray} (hk : 0 < s.size) (h : q (s[0].toNat : Nat) = true) (ha : ∀ k (hk : k < s.size), nam s[k] = true) : Lk q s.data.toList = true := by
 unfold Lk;rw [Dc s hk, h]
 have h1 : s.data.toList.isEmpty = false := by
  rw [List.isEmpty_eq_false_iff];intro e;rw [← Ae, e] at hk;simp at hk
 rw [h1];simp only [Bool.not_false, Bool.and_true, Bool.true_and];rw [List.all_eq_true];intro c hc;obtain ⟨k, hk, rfl⟩ := List.getElem_of_mem hc;exact ha k (by rw [Ae] at hk; exact hk)
def Ou (f : FuncId) (q : Int → Bool) : Prop := (∀ args w, (callFunc f args).run prog w = .ok (.enter f args) w) ∧ ∀ r w p, q r = p → Calls prog f #[.int .i32 r] w fun e w' => e = .returned (.bool p) ∧ w = w'
theorem Sl (f : FuncId) (w : World) : Calls prog 104 #[.string { data := #[] }, .func (.func f) #[] #[]] w fun e w' => e = .returned (.bool false) ∧ Below w.heap.size w w' := by
 have hnx : ∀ ty, (Instr.next (.pointer (some ⟨w.heap.size, 0, none⟩)) true ty).run prog (w.iter { data := #[] } 0) = _ := fun ty => run_next_end w { data := #[] } 0 ty (by decide)
 go_enter func104, ntmps104;go_wp2;refine wp_loop_rounds 1 ?_;rw [rounds_succ];go_wp2;go_ret;exact ⟨rfl, Aa _ _⟩
theorem Uq (f : FuncId) (q : Int → Bool) (hf : Hid (Ou f q)) (s : ByteArray) (w : World) (h0 : 0 < s.size) (P : Bool) (hP : Hid (Lk q s.data.toList = P)) :
  Calls prog 104 #[.string s, .func (.func f) #[] #[]] w fun e w' => e = .returned (.bool P) ∧ Below w.heap.size w w' := by
 have eg := hf.out.1;have HI := zz Us;have h0' := zz h0;go_enter func104, ntmps104;go_wp2_with fail
 go_loopw [5] (fun _ wr => ∃ pos : Nat, wr = w.iter s pos ∧ pos ≤ s.size ∧ (0 < pos → q (s[0].toNat : Nat) = true) ∧ ∀ k (hk : k < s.size), k < pos → nam s[k] = true) (fun _ wr => s.size - wr.iterPos w.heap.size)
 case atStart => exact ⟨0, rfl, Nat.zero_le _, fun h => absurd h (by omega), fun k _ h => absurd h (by omega)⟩
 case round =>
  obtain ⟨pos, rfl, hpos, hq, hall⟩ := hrel;replace hall := zz hall;by_cases hp : pos < s.size
  ·by_cases ha : s[pos].toNat < 128
   ·have hnx : ∀ ty, (Instr.next (.pointer (some ⟨w.heap.size, 0, none⟩)) true ty).run prog (w.iter s pos) = _ := fun ty => run_next_ascii w s pos ty hp ha
    cases hn : nam s[pos] with
    | false =>
     have hP' : P = false := by rw [← hP.out]; exact To hp hn
     subst hP';rw [← Pg] at hn;replace hn := zz hn;by_cases hz : pos = 0
     ·subst hz
      cases hq0 : q (s[0].toNat : Nat) with
      | false =>
       replace hq0 := zz hq0;clear hq ha;go_wp2_with fail;refine (hf.out.2 _ _ false hq0.out).mono ?_;rintro e w' ⟨rfl, rfl⟩;go_wp2_with fail;go_ret
       exact ⟨rfl, Aa _ _⟩
      | true =>
       replace hq0 := zz hq0;clear hq ha;go_wp2_with fail;refine (hf.out.2 _ _ true hq0.out).mono ?_;rintro e w' ⟨rfl, rfl⟩;go_wp2_with (go_at_call 149; refine (HI.out _ _ false hn.out).mono ?_; rintro e w' ⟨rfl, rfl⟩);go_ret;exact ⟨rfl, Aa _ _⟩
     ·have e0 : ((pos : Int) == 0) = false := by rw [beq_eq_false_iff_ne]; omega
      clear hq ha hz;go_wp2_with (go_at_call 149; refine (HI.out _ _ false hn.out).mono ?_; rintro e w' ⟨rfl, rfl⟩);go_ret
      exact ⟨rfl, Aa _ _⟩
    | true =>
     have HA := zz (show ∀ k (hk : k < s.size), k < pos + 1 → nam s[k] = true from fun k hk h => by
      by_cases e : k = pos
      ·subst e; exact hn
      ·exact hall.out k hk (by omega))
     rw [← Pg] at hn;replace hn := zz hn;by_cases hz : pos = 0
     ·subst hz
      cases hq0 : q (s[0].toNat : Nat) with
      | false =>
       have hP' : P = false := by rw [← hP.out]; exact Zy hp hq0
       subst hP';replace hq0 := zz hq0;clear hq ha;go_wp2_with fail;refine (hf.out.2 _ _ false hq0.out).mono ?_;rintro e w' ⟨rfl, rfl⟩;go_wp2_with fail;go_ret
       exact ⟨rfl, Aa _ _⟩
      | true =>
       replace hq0 := zz hq0;clear hq ha;go_wp2_with fail;refine (hf.out.2 _ _ true hq0.out).mono ?_;rintro e w' ⟨rfl, rfl⟩;go_wp2_with (go_at_call 149; refine (HI.out _ _ true hn.out).mono ?_; rintro e w' ⟨rfl, rfl⟩)
       go_roundw
       case rel => exact ⟨1, rfl, by omega, fun _ => by first | exact hq0.out | trivial, HA.out⟩
       case measure => simp; omega
     ·have e0 : ((pos : Int) == 0) = false := by rw [beq_eq_false_iff_ne]; omega
      have HQ := zz (hq (by omega));clear hq ha;go_wp2_with (go_at_call 149; refine (HI.out _ _ true hn.out).mono ?_; rintro e w' ⟨rfl, rfl⟩)
      go_roundw
      case rel => exact ⟨pos + 1, rfl, by omega, fun _ => HQ.out, HA.out⟩
      case measure => simp; omega
   ·have hnx : ∀ ty, (Instr.next (.pointer (some ⟨w.heap.size, 0, none⟩)) true ty).run prog (w.iter s pos) = _ := fun ty => run_next_any w s pos ty hp
    have hP' : P = false := by rw [← hP.out]; exact To hp (a8x (by omega))
    subst hP';obtain ⟨g1, g2⟩ := decode_high s pos hp (by omega);have hn := zz (Uh (r := ((Utf8.decode s pos).1 : Nat)) (by omega));clear hq ha;generalize (Utf8.decode s pos).1 = r at hnx hn g1;generalize (Utf8.decode s pos).2 = m at hnx g2;clear g1 g2;by_cases hz : pos = 0
    ·subst hz
     cases hq0 : q (r : Nat) with
     | false =>
      replace hq0 := zz hq0;go_wp2_with fail;refine (hf.out.2 _ _ false hq0.out).mono ?_;rintro e w' ⟨rfl, rfl⟩;go_wp2_with fail;go_ret
      exact ⟨rfl, Aa _ _⟩
     | true =>
      replace hq0 := zz hq0;go_wp2_with fail;refine (hf.out.2 _ _ true hq0.out).mono ?_;rintro e w' ⟨rfl, rfl⟩;go_wp2_with (go_at_call 149; refine (HI.out _ _ false hn.out).mono ?_; rintro e w' ⟨rfl, rfl⟩);go_ret;exact ⟨rfl, Aa _ _⟩
    ·have e0 : ((pos : Int) == 0) = false := by rw [beq_eq_false_iff_ne]; omega
     clear hz;go_wp2_with (go_at_call 149; refine (HI.out _ _ false hn.out).mono ?_; rintro e w' ⟨rfl, rfl⟩);go_ret;exact ⟨rfl, Aa _ _⟩
  ·have hnx : ∀ ty, (Instr.next (.pointer (some ⟨w.heap.size, 0, none⟩)) true ty).run prog (w.iter s pos) = _ := fun ty => run_next_end w s pos ty hp
   have hP' : P = true := by rw [← hP.out]; exact Zz h0 (hq (by omega)) fun k hk => hall.out k hk (by omega)
   subst hP'
   have e1 : (s.toList == []) = false := by
    rw [ByteArray.toList_eq, beq_eq_false_iff_ne];intro e;rw [← Ae, e] at h0;simp at h0
   have e2 : (s.toList != []) = true := by rw [bne, e1]; rfl
   have e3 : s.toList.isEmpty = false := by rw [← e1]; cases s.toList <;> rfl
   clear hq;go_wp2_with fail;go_ret;exact ⟨rfl, Aa _ _⟩
theorem Pp (f : FuncId) (q : Int → Bool) (hf : Ou f q) (s : ByteArray) (w : World) (P : Bool) (hP : Lk q s.data.toList = P) :
  Calls prog 104 #[.string s, .func (.func f) #[] #[]] w fun e w' => e = .returned (.bool P) ∧ Below w.heap.size w w' := by
 by_cases h0 : 0 < s.size
 ·exact Uq f q (zz hf) s w h0 P (zz hP)
 ·have := Mm s h0;subst this;have hP' : P = false := by rw [← hP]; rfl
  subst hP';exact Sl f w
theorem Z3 : Ou 106 Rz := ⟨by intro args w; simp [go_sem], fun r w p h => Pq r w p h⟩
theorem a0u : Ou 105 Ve := ⟨by intro args w; simp [go_sem], fun r w p h => Ps r w p h⟩
def Ef (l : List UInt8) : Bool := Lk Rz l && !I1 l
def Gi (l : List UInt8) : Bool := Lk Ve l
theorem Qz (s : ByteArray) (w : World) (p : Bool) (hp : Gi s.data.toList = p) : Calls prog 70 #[.string s] w fun e w' => e = .returned (.bool p) ∧ Below w.heap.size w w' := by
 have H := zz (Pp 105 Ve a0u s w p hp);clear hp;go_enter func70, ntmps70;go_wp2_with (go_at_call 104; refine H.out.mono ?_; rintro e w' ⟨rfl, hb⟩; replace hb := zz hb);go_ret;exact ⟨rfl, hb.out⟩
theorem Hc (s : ByteArray) (w : World) (p : Bool) (hp : Ef s.data.toList = p) : Calls prog 71 #[.string s] w fun e w' => e = .returned (.bool p) ∧ Below w.heap.size w w' := by
 have H := zz (Pp 106 Rz Z3 s w);have HW := zz (Vi s);unfold Ef at hp
 cases h1 : Lk Rz s.data.toList with
 | false =>
  rw [h1, Bool.false_and] at hp;subst hp;replace h1 := zz h1;go_enter func71, ntmps71;go_wp2_with (go_at_call 104; refine (H.out false h1.out).mono ?_; rintro e w' ⟨rfl, hb⟩; replace hb := zz hb);go_ret
  exact ⟨rfl, hb.out⟩
 | true =>
  cases h2 : I1 s.data.toList with
  | false =>
   rw [h1, h2] at hp;subst hp;replace h1 := zz h1;replace h2 := zz h2;go_enter func71, ntmps71;go_wp2_with (first | (go_at_call 104; refine (H.out true h1.out).mono ?_; rintro e w' ⟨rfl, hb⟩; replace hb := zz hb) | (go_at_call 107; refine (HW.out false h2.out _).mono ?_; rintro e w' ⟨rfl, rfl⟩));go_ret
   exact ⟨rfl, hb.out⟩
  | true =>
   rw [h1, h2] at hp;subst hp;replace h1 := zz h1;replace h2 := zz h2;go_enter func71, ntmps71;go_wp2_with (first | (go_at_call 104; refine (H.out true h1.out).mono ?_; rintro e w' ⟨rfl, hb⟩; replace hb := zz hb) | (go_at_call 107; refine (HW.out true h2.out _).mono ?_; rintro e w' ⟨rfl, rfl⟩));go_ret;exact ⟨rfl, hb.out⟩
end
section
theorem Su (x : List UInt8) {p : Pt} (hp : Fp p) : ∀ n, Fp (Ci x p n)
 | 0 => Gr
 | n + 1 => fun d ts => Ht P3 ((hp d ts).bind fun F r => (Su x hp n d r).bind fun _ _ => P3)
theorem Ys : ∀ {l : List Pt}, (∀ p ∈ l, Fp p) → Fp (Ba l)
 | [], _ => I4
 | p :: l, h => Lf (h p (by simp)) (Ys fun q hq => h q (by simp [hq]))
theorem Mk {k : Nat} {l : List Pt} (h : ∀ p ∈ l, Fp p) : Fp (Cd k l) := Ih _ (Kw (Ys h))
theorem b9f {E : Pt} (hE : Fp E) : Fp (L3 E) := fun d ts => (hE d ts).bind fun F r =>
 Ht ((Lf (Fe _) (Lf hE (Fe _)) d r).bind fun _ _ => P3) (Ht ((Fe _ d r).bind fun _ _ => P3) f_5)
theorem a41 {E B : Pt} (hE : Fp E) (hB : Fp B) (n : Nat) : Fp (Gg E B n) := by
 refine Lg _ (Ih _ (Kw (Ys fun p hp => ?_))) (Lg _ (Mk fun p hp => ?_) (Lg _ (Mk fun p hp => ?_) (Lg _ (Mk fun p hp => ?_) (Lg _ (Mk fun p hp => ?_) (b9f hE)))))
 all_goals simp only [List.mem_cons, List.not_mem_nil, or_false] at hp
 ·rcases hp with rfl | rfl | rfl | rfl | rfl | rfl <;> first | exact Fe _ | exact Pz _ | exact hE
 ·rcases hp with rfl | rfl | rfl <;> first | exact hE | exact hB | exact Lg _ (Kw hB) I4
 ·rcases hp with rfl | rfl <;> first | exact hE | exact hB
 ·rcases hp with rfl | rfl <;> first | exact Fe _ | exact Lg _ I4 hE
 ·rcases hp with rfl | rfl <;> first | exact Fe _ | exact hE
theorem Yr {S : Pt} (h : Fp S) (n : Nat) : Fp (D3 S n) := Ih _ (Ex _ _ (Su _ h n))
theorem a42 : ∀ n, Fp (K6 n)
 | 0 => Gr
 | n + 1 => a41 (b9h _).1 (Yr (a42 n) n) _
theorem Yn (k n : Nat) : Fp (D7 k n) := Ih _ (Ys fun p hp => by
 simp only [List.mem_cons, List.not_mem_nil, or_false] at hp
 rcases hp with rfl | rfl | rfl <;> first | exact Fe _ | exact Pz _)
theorem b9g (n : Nat) : Fp (a2z n) := Ih _ (Kw (Lf (Fe _) (Ex _ _ (Su _ (Lf (Yn 3 n) (Fe _)) n))))
theorem a43 (n : Nat) : Fp (Es n) := fun d ts => Ht (Pz n d _) P3
theorem c1h (n : Nat) : Fp (fnP n) := fun d ts => (Fe _ d ts).bind fun _ r => (Lf (Fe _) (Ex _ _ (Uw (Yn 5 n) n)) d r).bind fun F r1 =>
 (Lf (a43 n) (Yr (a42 n) n) d r1).bind fun G r2 => P3
theorem b4q (n : Nat) : Fp (Gu n) := Lg _ (b9g n) (c1h n)
theorem Yo {p : Pt} (hp : Fp p) : ∀ n, Fp (He p n)
 | 0 => Gr
 | n + 1 => fun d ts => Ht P3 ((hp d ts).bind fun F r => (Yo hp n d r).bind fun _ _ => P3)
theorem b4m (n : Nat) : Fp (Fl n) := fun d ts => (Yo (b4q n) n d ts).bind fun _ _ => P3
end
end Go.Proofs.YtoaplbljflhheaaGreat
