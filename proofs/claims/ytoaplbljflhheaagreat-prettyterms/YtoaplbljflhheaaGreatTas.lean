/-
 Contracts and plain facts on the way to PrettyTerms. Conditions: as each says.
-/
import Derived.Test.YtoaplbljflhheaaGreatTad
import Derived.Test.YtoaplbljflhheaaGreatTap
import Derived.Test.YtoaplbljflhheaaGreatTam
import Derived.Test.YtoaplbljflhheaaGreatTaj
set_option maxHeartbeats 40000000
set_option maxRecDepth 100000
set_option linter.unusedVariables false
set_option linter.unusedSimpArgs false
namespace Go.Proofs.YtoaplbljflhheaaGreat
section
open Go.RowKit Go.Sort
theorem b5u {b : Bool} (h : b = false) (h2 : b = true) : False := by rw [h] at h2; cases h2
def b68 (s : ByteArray) (w : World) (R : List UInt8 × Nat × Bool) (v i : Value) (wr : World) : Prop :=
 ∃ (k : Nat) (x : List UInt8), 1 ≤ k ∧ k ≤ s.size ∧ i = .int .i64 k ∧ x.length ≤ k ∧ (x ++ (C8 (s.data.toList.drop k)).1, k + (C8 (s.data.toList.drop k)).2.1, (C8 (s.data.toList.drop k)).2.2) = R ∧
  Own wr w.heap.size v x ∧ Below w.heap.size w wr
theorem b68.stop {s : ByteArray} {R : List UInt8 × Nat × Bool} {k m : Nat} {x : List UInt8} {b : UInt8} (hR : (x ++ (C8 (s.data.toList.drop k)).1, k + (C8 (s.data.toList.drop k)).2.1, (C8 (s.data.toList.drop k)).2.2) = R)
  (hq : ¬ (s.data.toList.drop k).head? = some 34) (hr : rb (s.data.toList.drop k) = (b, m, false)) : R.2 = (k + m, false) := by
 have hst := Hs (s.data.toList.drop k) hq (by rw [hr])
 rw [hr] at hst
 rw [← hR, hst]
end
end Go.Proofs.YtoaplbljflhheaaGreat
namespace Go.Proofs.YtoaplbljflhheaaGreat
section
open Go.RowKit Go.Sort
end
end Go.Proofs.YtoaplbljflhheaaGreat
namespace Go.Proofs.YtoaplbljflhheaaGreat
open Go.RowKit Go.Sort
def N1 (r : Int) : Bool := (decide (97 ≤ r) && decide (r ≤ 122)) || decide (r = 95)
def Qu (r : Int) : Bool := decide (65 ≤ r) && decide (r ≤ 90)
def Zm (r : Int) : Bool := N1 r || Qu r || (decide (48 ≤ r) && decide (r ≤ 57))
theorem L8 (r : Int) (w : World) (p : Bool) (hp : N1 r = p) : Calls Tryz.prog 106 #[.int .i32 r] w fun e w' => e = .returned (.bool p) ∧ w = w' := by
 subst hp
 by_cases a1 : 97 ≤ r
 ·by_cases a2 : r ≤ 122
  ·rw [show N1 r = true by simp [N1, a1, a2]]
   go_enter Tryz.func106, Tryz.ntmps106
   go_wp2
   go_ret
   exact ⟨rfl, rfl⟩
  ·rw [show N1 r = false by simp [N1, a2]; omega]
   have e : (r == 95) = false := by rw [beq_eq_false_iff_ne]; omega
   go_enter Tryz.func106, Tryz.ntmps106
   go_wp2
   go_ret
   exact ⟨rfl, rfl⟩
 ·by_cases a3 : r = 95
  ·rw [show N1 r = true by simp [N1, a3]]
   subst a3
   go_enter Tryz.func106, Tryz.ntmps106
   go_wp2
   go_ret
   exact ⟨rfl, rfl⟩
  ·rw [show N1 r = false by simp [N1, a1, a3]]
   have e : (r == 95) = false := by rw [beq_eq_false_iff_ne]; exact a3
   clear a3
   go_enter Tryz.func106, Tryz.ntmps106
   go_wp2
   go_ret
   exact ⟨rfl, rfl⟩
theorem L9 (r : Int) (w : World) (p : Bool) (hp : Qu r = p) : Calls Tryz.prog 105 #[.int .i32 r] w fun e w' => e = .returned (.bool p) ∧ w = w' := by
 subst hp
 by_cases a1 : 65 ≤ r
 ·by_cases a2 : r ≤ 90
  ·rw [show Qu r = true by simp [Qu, a1, a2]]
   go_enter Tryz.func105, Tryz.ntmps105
   go_wp2
   go_ret
   exact ⟨rfl, rfl⟩
  ·rw [show Qu r = false by simp [Qu, a2]]
   go_enter Tryz.func105, Tryz.ntmps105
   go_wp2
   go_ret
   exact ⟨rfl, rfl⟩
 ·rw [show Qu r = false by simp [Qu, a1]]
  go_enter Tryz.func105, Tryz.ntmps105
  go_wp2
  go_ret
  exact ⟨rfl, rfl⟩
theorem Qf (r : Int) (w : World) (p : Bool) (hp : Zm r = p) : Calls Tryz.prog 149 #[.int .i32 r] w fun e w' => e = .returned (.bool p) ∧ w = w' := by
 subst hp
 have HS := zz (L8 r w)
 have HG := zz (L9 r w)
 cases h1 : N1 r with
 | true =>
  rw [show Zm r = true by simp [Zm, h1]]
  replace h1 := zz h1
  go_enter Tryz.func149, Tryz.ntmps149
  go_wp2_with (go_at_call 106; refine (HS.out true h1.out).mono ?_; rintro e w' ⟨rfl, rfl⟩)
  go_ret
  exact ⟨rfl, rfl⟩
 | false =>
  cases h2 : Qu r with
  | true =>
   rw [show Zm r = true by simp [Zm, h2]]
   replace h1 := zz h1
   replace h2 := zz h2
   go_enter Tryz.func149, Tryz.ntmps149
   go_wp2_with (first | (go_at_call 106; refine (HS.out false h1.out).mono ?_; rintro e w' ⟨rfl, rfl⟩) | (go_at_call 105; refine (HG.out true h2.out).mono ?_; rintro e w' ⟨rfl, rfl⟩))
   go_ret
   exact ⟨rfl, rfl⟩
  | false =>
   rw [show Zm r = (decide (48 ≤ r) && decide (r ≤ 57)) by simp [Zm, h1, h2]]
   replace h1 := zz h1
   replace h2 := zz h2
   by_cases a1 : 48 ≤ r
   ·by_cases a2 : r ≤ 57
    ·rw [show (decide (48 ≤ r) && decide (r ≤ 57)) = true by simp [a1, a2]]
     go_enter Tryz.func149, Tryz.ntmps149
     go_wp2_with (first | (go_at_call 106; refine (HS.out false h1.out).mono ?_; rintro e w' ⟨rfl, rfl⟩) | (go_at_call 105; refine (HG.out false h2.out).mono ?_; rintro e w' ⟨rfl, rfl⟩))
     go_ret
     exact ⟨rfl, rfl⟩
    ·rw [show (decide (48 ≤ r) && decide (r ≤ 57)) = false by simp [a2]]
     have e2 : decide (r ≤ 57) = false := by simpa using a2
     go_enter Tryz.func149, Tryz.ntmps149
     go_wp2_with (first | (go_at_call 106; refine (HS.out false h1.out).mono ?_; rintro e w' ⟨rfl, rfl⟩) | (go_at_call 105; refine (HG.out false h2.out).mono ?_; rintro e w' ⟨rfl, rfl⟩))
     go_ret
     exact ⟨rfl, rfl⟩
   ·rw [show (decide (48 ≤ r) && decide (r ≤ 57)) = false by simp [a1]]
    go_enter Tryz.func149, Tryz.ntmps149
    go_wp2_with (first | (go_at_call 106; refine (HS.out false h1.out).mono ?_; rintro e w' ⟨rfl, rfl⟩) | (go_at_call 105; refine (HG.out false h2.out).mono ?_; rintro e w' ⟨rfl, rfl⟩))
    go_ret
    exact ⟨rfl, rfl⟩
theorem L1 (c : UInt8) : Zm (c.toNat : Nat) = nam c := by
 have h : (c = 95) ↔ c.toNat = 95 := ⟨fun e => by rw [e]; rfl, fun e => UInt8.toNat_inj.1 (by rw [e]; rfl)⟩
 rw [Bool.eq_iff_iff]
 simp [Zm, N1, Qu, nam, sml, grt, dgt, h]
 omega
theorem P3 {r : Int} (h : 128 ≤ r) : Zm r = false := by simp [Zm, N1, Qu]; omega
theorem a3r {c : UInt8} (h : 128 ≤ c.toNat) : nam c = false := by rw [← L1]; exact P3 (by omega)
def Ii (q : Int → Bool) (l : List UInt8) : Bool := !l.isEmpty && q (l.headD 0).toNat && l.all nam
theorem Pg {q : Int → Bool} {s : ByteArray} {k : Nat} (hk : k < s.size) (h : nam s[k] = false) : Ii q s.data.toList = false := by
 unfold Ii
 rw [Bool.and_eq_false_iff]
 right
 rw [List.all_eq_false]
 refine ⟨s[k], ?_, by simp [h]⟩
 have := a4d s k hk
 exact List.mem_of_getElem? this
theorem Ur {q : Int → Bool} {s : ByteArray} (hk : 0 < s.size) (h : q (s[0].toNat : Nat) = false) : Ii q s.data.toList = false := by
 unfold Ii
 rw [Ck s hk, h]
 simp
theorem Us {q : Int → Bool} {s : ByteArray} (hk : 0 < s.size) (h : q (s[0].toNat : Nat) = true) (ha : ∀ k (hk : k < s.size), nam s[k] = true) : Ii q s.data.toList = true := by
 unfold Ii
 rw [Ck s hk, h]
 have h1 : s.data.toList.isEmpty = false := by
  rw [List.isEmpty_eq_false_iff]
  intro e
  rw [← Af, e] at hk
  simp at hk
 rw [h1]
 simp only [Bool.not_false, Bool.and_true, Bool.true_and]
 rw [List.all_eq_true]
 intro c hc
 obtain ⟨k, hk, rfl⟩ := List.getElem_of_mem hc
 exact ha k (by rw [Af] at hk; exact hk)
def Lf (f : FuncId) (q : Int → Bool) : Prop := (∀ args w, (callFunc f args).run Tryz.prog w = .ok (.enter f args) w) ∧ ∀ r w p, q r = p → Calls Tryz.prog f #[.int .i32 r] w fun e w' => e = .returned (.bool p) ∧ w = w'
theorem Oi (f : FuncId) (w : World) : Calls Tryz.prog 104 #[.string { data := #[] }, .func (.func f) #[] #[]] w fun e w' => e = .returned (.bool false) ∧ Below w.heap.size w w' := by
 have hnx : ∀ ty, (Instr.next (.pointer (some ⟨w.heap.size, 0, none⟩)) true ty).run Tryz.prog (w.iter { data := #[] } 0) = _ := fun ty => run_next_end w { data := #[] } 0 ty (by decide)
 go_enter Tryz.func104, Tryz.ntmps104
 go_wp2
 refine wp_loop_rounds 1 ?_
 rw [rounds_succ]
 go_wp2
 go_ret
 exact ⟨rfl, Aa _ _⟩
theorem Qd (f : FuncId) (q : Int → Bool) (hf : Hid (Lf f q)) (s : ByteArray) (w : World) (h0 : 0 < s.size) (P : Bool) (hP : Hid (Ii q s.data.toList = P)) :
  Calls Tryz.prog 104 #[.string s, .func (.func f) #[] #[]] w fun e w' => e = .returned (.bool P) ∧ Below w.heap.size w w' := by
 have eg := hf.out.1
 have HI := zz Qf
 have h0' := zz h0
 go_enter Tryz.func104, Tryz.ntmps104
 go_wp2_with fail
 go_loopw [5] (fun _ wr => ∃ pos : Nat, wr = w.iter s pos ∧ pos ≤ s.size ∧ (0 < pos → q (s[0].toNat : Nat) = true) ∧ ∀ k (hk : k < s.size), k < pos → nam s[k] = true) (fun _ wr => s.size - wr.iterPos w.heap.size)
 case atStart => exact ⟨0, rfl, Nat.zero_le _, fun h => absurd h (by omega), fun k _ h => absurd h (by omega)⟩
 case round =>
  obtain ⟨pos, rfl, hpos, hq, hall⟩ := hrel
  replace hall := zz hall
  by_cases hp : pos < s.size
  ·by_cases ha : s[pos].toNat < 128
   ·have hnx : ∀ ty, (Instr.next (.pointer (some ⟨w.heap.size, 0, none⟩)) true ty).run Tryz.prog (w.iter s pos) = _ := fun ty => run_next_ascii w s pos ty hp ha
    cases hn : nam s[pos] with
    | false =>
     have hP' : P = false := by rw [← hP.out]; exact Pg hp hn
     subst hP'
     rw [← L1] at hn
     replace hn := zz hn
     by_cases hz : pos = 0
     ·subst hz
      cases hq0 : q (s[0].toNat : Nat) with
      | false =>
       replace hq0 := zz hq0
       clear hq ha
       go_wp2_with fail
       refine (hf.out.2 _ _ false hq0.out).mono ?_
       rintro e w' ⟨rfl, rfl⟩
       go_wp2_with fail
       go_ret
       exact ⟨rfl, Aa _ _⟩
      | true =>
       replace hq0 := zz hq0
       clear hq ha
       go_wp2_with fail
       refine (hf.out.2 _ _ true hq0.out).mono ?_
       rintro e w' ⟨rfl, rfl⟩
       go_wp2_with (go_at_call 149; refine (HI.out _ _ false hn.out).mono ?_; rintro e w' ⟨rfl, rfl⟩)
       go_ret
       exact ⟨rfl, Aa _ _⟩
     ·have e0 : ((pos : Int) == 0) = false := by rw [beq_eq_false_iff_ne]; omega
      clear hq ha hz
      go_wp2_with (go_at_call 149; refine (HI.out _ _ false hn.out).mono ?_; rintro e w' ⟨rfl, rfl⟩)
      go_ret
      exact ⟨rfl, Aa _ _⟩
    | true =>
     have HA := zz (show ∀ k (hk : k < s.size), k < pos + 1 → nam s[k] = true from fun k hk h => by
      by_cases e : k = pos
      ·subst e; exact hn
      ·exact hall.out k hk (by omega))
     rw [← L1] at hn
     replace hn := zz hn
     by_cases hz : pos = 0
     ·subst hz
      cases hq0 : q (s[0].toNat : Nat) with
      | false =>
       have hP' : P = false := by rw [← hP.out]; exact Ur hp hq0
       subst hP'
       replace hq0 := zz hq0
       clear hq ha
       go_wp2_with fail
       refine (hf.out.2 _ _ false hq0.out).mono ?_
       rintro e w' ⟨rfl, rfl⟩
       go_wp2_with fail
       go_ret
       exact ⟨rfl, Aa _ _⟩
      | true =>
       replace hq0 := zz hq0
       clear hq ha
       go_wp2_with fail
       refine (hf.out.2 _ _ true hq0.out).mono ?_
       rintro e w' ⟨rfl, rfl⟩
       go_wp2_with (go_at_call 149; refine (HI.out _ _ true hn.out).mono ?_; rintro e w' ⟨rfl, rfl⟩)
       go_roundw
       case rel => exact ⟨1, rfl, by omega, fun _ => by first | exact hq0.out | trivial, HA.out⟩
       case measure => simp; omega
     ·have e0 : ((pos : Int) == 0) = false := by rw [beq_eq_false_iff_ne]; omega
      have HQ := zz (hq (by omega))
      clear hq ha
      go_wp2_with (go_at_call 149; refine (HI.out _ _ true hn.out).mono ?_; rintro e w' ⟨rfl, rfl⟩)
      go_roundw
      case rel => exact ⟨pos + 1, rfl, by omega, fun _ => HQ.out, HA.out⟩
      case measure => simp; omega
   ·have hnx : ∀ ty, (Instr.next (.pointer (some ⟨w.heap.size, 0, none⟩)) true ty).run Tryz.prog (w.iter s pos) = _ := fun ty => run_next_any w s pos ty hp
    have hP' : P = false := by rw [← hP.out]; exact Pg hp (a3r (by omega))
    subst hP'
    obtain ⟨g1, g2⟩ := decode_high s pos hp (by omega)
    have hn := zz (P3 (r := ((Utf8.decode s pos).1 : Nat)) (by omega))
    clear hq ha
    generalize (Utf8.decode s pos).1 = r at hnx hn g1
    generalize (Utf8.decode s pos).2 = m at hnx g2
    clear g1 g2
    by_cases hz : pos = 0
    ·subst hz
     cases hq0 : q (r : Nat) with
     | false =>
      replace hq0 := zz hq0
      go_wp2_with fail
      refine (hf.out.2 _ _ false hq0.out).mono ?_
      rintro e w' ⟨rfl, rfl⟩
      go_wp2_with fail
      go_ret
      exact ⟨rfl, Aa _ _⟩
     | true =>
      replace hq0 := zz hq0
      go_wp2_with fail
      refine (hf.out.2 _ _ true hq0.out).mono ?_
      rintro e w' ⟨rfl, rfl⟩
      go_wp2_with (go_at_call 149; refine (HI.out _ _ false hn.out).mono ?_; rintro e w' ⟨rfl, rfl⟩)
      go_ret
      exact ⟨rfl, Aa _ _⟩
    ·have e0 : ((pos : Int) == 0) = false := by rw [beq_eq_false_iff_ne]; omega
     clear hz
     go_wp2_with (go_at_call 149; refine (HI.out _ _ false hn.out).mono ?_; rintro e w' ⟨rfl, rfl⟩)
     go_ret
     exact ⟨rfl, Aa _ _⟩
  ·have hnx : ∀ ty, (Instr.next (.pointer (some ⟨w.heap.size, 0, none⟩)) true ty).run Tryz.prog (w.iter s pos) = _ := fun ty => run_next_end w s pos ty hp
   have hP' : P = true := by rw [← hP.out]; exact Us h0 (hq (by omega)) fun k hk => hall.out k hk (by omega)
   subst hP'
   have e1 : (s.toList == []) = false := by
    rw [ByteArray.toList_eq, beq_eq_false_iff_ne]
    intro e
    rw [← Af, e] at h0
    simp at h0
   have e2 : (s.toList != []) = true := by rw [bne, e1]; rfl
   have e3 : s.toList.isEmpty = false := by rw [← e1]; cases s.toList <;> rfl
   clear hq
   go_wp2_with fail
   go_ret
   exact ⟨rfl, Aa _ _⟩
theorem L7 (f : FuncId) (q : Int → Bool) (hf : Lf f q) (s : ByteArray) (w : World) (P : Bool) (hP : Ii q s.data.toList = P) :
  Calls Tryz.prog 104 #[.string s, .func (.func f) #[] #[]] w fun e w' => e = .returned (.bool P) ∧ Below w.heap.size w w' := by
 by_cases h0 : 0 < s.size
 ·exact Qd f q (zz hf) s w h0 P (zz hP)
 ·have := Jh s h0
  subst this
  have hP' : P = false := by rw [← hP]; rfl
  subst hP'
  exact Oi f w
theorem Ut : Lf 106 N1 := ⟨by intro args w; simp [go_sem], fun r w p h => L8 r w p h⟩
theorem Vz : Lf 105 Qu := ⟨by intro args w; simp [go_sem], fun r w p h => L9 r w p h⟩
def Dv (l : List UInt8) : Bool := Ii N1 l && !F4 l
def Eu (l : List UInt8) : Bool := Ii Qu l
theorem M7 (s : ByteArray) (w : World) (p : Bool) (hp : Eu s.data.toList = p) : Calls Tryz.prog 70 #[.string s] w fun e w' => e = .returned (.bool p) ∧ Below w.heap.size w w' := by
 have H := zz (L7 105 Qu Vz s w p hp)
 clear hp
 go_enter Tryz.func70, Tryz.ntmps70
 go_wp2_with (go_at_call 104; refine H.out.mono ?_; rintro e w' ⟨rfl, hb⟩; replace hb := zz hb)
 go_ret
 exact ⟨rfl, hb.out⟩
theorem Er (s : ByteArray) (w : World) (p : Bool) (hp : Dv s.data.toList = p) : Calls Tryz.prog 71 #[.string s] w fun e w' => e = .returned (.bool p) ∧ Below w.heap.size w w' := by
 have H := zz (L7 106 N1 Ut s w)
 have HW := zz (Qy s)
 unfold Dv at hp
 cases h1 : Ii N1 s.data.toList with
 | false =>
  rw [h1, Bool.false_and] at hp
  subst hp
  replace h1 := zz h1
  go_enter Tryz.func71, Tryz.ntmps71
  go_wp2_with (go_at_call 104; refine (H.out false h1.out).mono ?_; rintro e w' ⟨rfl, hb⟩; replace hb := zz hb)
  go_ret
  exact ⟨rfl, hb.out⟩
 | true =>
  cases h2 : F4 s.data.toList with
  | false =>
   rw [h1, h2] at hp
   subst hp
   replace h1 := zz h1
   replace h2 := zz h2
   go_enter Tryz.func71, Tryz.ntmps71
   go_wp2_with (first | (go_at_call 104; refine (H.out true h1.out).mono ?_; rintro e w' ⟨rfl, hb⟩; replace hb := zz hb) | (go_at_call 107; refine (HW.out false h2.out _).mono ?_; rintro e w' ⟨rfl, rfl⟩))
   go_ret
   exact ⟨rfl, hb.out⟩
  | true =>
   rw [h1, h2] at hp
   subst hp
   replace h1 := zz h1
   replace h2 := zz h2
   go_enter Tryz.func71, Tryz.ntmps71
   go_wp2_with (first | (go_at_call 104; refine (H.out true h1.out).mono ?_; rintro e w' ⟨rfl, hb⟩; replace hb := zz hb) | (go_at_call 107; refine (HW.out true h2.out _).mono ?_; rintro e w' ⟨rfl, rfl⟩))
   go_ret
   exact ⟨rfl, hb.out⟩
end Go.Proofs.YtoaplbljflhheaaGreat
namespace Go.Proofs.YtoaplbljflhheaaGreat
def Ko (n : Nd) : Inf := ⟨n.kind, 0, 0, n.num, n.text.data.toList⟩
def fo (l : List Nd) : Nat → Nat → Nat → Fo
 | 0, _, _ => .nil
 | f + 1, p, stop => if p < stop then .cons (Ko (nd l p)) (fo l f (p + 1) (p + 1 + (sz l p).toNat)) (fo l f (p + 1 + (sz l p).toNat) stop) else .nil
theorem b3n (l : List Nd) (f p : Nat) : fo l f p p = .nil := by
 cases f with
 | zero => rfl
 | succ f => rw [fo, if_neg (Nat.lt_irrefl _)]
theorem Sh {S : Nat → Int} {stop p : Nat} (hp : p < stop) (h : (Ch S stop p).isSome = true) : 0 ≤ S p ∧ p + 1 + (S p).toNat ≤ stop ∧ (Ch S stop (p + 1 + (S p).toNat)).isSome = true ∧ (Ch S stop p).getD [] = p :: (Ch S stop (p + 1 + (S p).toNat)).getD [] := by
 by_cases hb : S p < 0 ∨ (stop : Int) - 1 - p < S p
 ·rw [C1 hp hb] at h; cases h
 ·rw [Bx hp hb] at h
  rw [Bx hp hb]
  rw [Option.isSome_map] at h
  refine ⟨by omega, by omega, h, ?_⟩
  obtain ⟨m, hm⟩ := Option.isSome_iff_exists.1 h
  rw [hm]
  rfl
theorem a0j {l : List Nd} {n : Nat} (hok : ∀ j, j < n → Ok (sz l) n j) : ∀ (f p stop : Nat), p ≤ stop → stop ≤ n → stop - p ≤ f → (Ch (sz l) stop p).isSome = true →
  (fo l f p stop).cnt = stop - p ∧ C5 (fo l f p stop) p = (Ch (sz l) stop p).getD [] ∧
   ∀ j, j < stop - p → ∃ f', (sz l (p + j)).toNat ≤ f' ∧ (Cx (fo l f p stop))[j]? = some (Ko (nd l (p + j)), fo l f' (p + j + 1) (p + j + 1 + (sz l (p + j)).toNat)) := by
 intro f
 induction f with
 | zero =>
  intro p stop h1 h2 h3 h4
  obtain rfl : p = stop := by omega
  exact ⟨by simp [fo, Fo.cnt], by rw [Bj (Nat.lt_irrefl _)]; rfl, fun j hj => absurd hj (by omega)⟩
 | succ f ih =>
  intro p stop h1 h2 h3 h4
  by_cases hp : p < stop
  ·obtain ⟨s0, s1, s2, s3⟩ := Sh hp h4
   have hk := (hok p (by omega)).kids
   obtain ⟨a1, a2, a3⟩ := ih (p + 1) (p + 1 + (sz l p).toNat) (by omega) (by omega) (by omega) hk
   obtain ⟨b1, b2, b3⟩ := ih (p + 1 + (sz l p).toNat) stop s1 h2 (by omega) s2
   have hc : (fo l f (p + 1) (p + 1 + (sz l p).toNat)).cnt = (sz l p).toNat := by rw [a1]; omega
   rw [fo, if_pos hp]
   refine ⟨by rw [Fo.cnt, hc, b1]; omega, by rw [C5, hc, b2, s3], fun j hj => ?_⟩
   by_cases hj0 : j = 0
   ·subst hj0
    exact ⟨f, by rw [Nat.add_zero]; omega, by simp [Cx]⟩
   ·obtain ⟨i, rfl⟩ : ∃ i, j = i + 1 := ⟨j - 1, by omega⟩
    by_cases hi : i < (sz l p).toNat
    ·obtain ⟨f', h5, h6⟩ := a3 i (by omega)
     refine ⟨f', by rw [show p + (i + 1) = p + 1 + i by omega]; exact h5, ?_⟩
     rw [Cx, List.getElem?_cons_succ, List.getElem?_append_left (by rw [Ba, hc]; exact hi), h6, show p + (i + 1) = p + 1 + i by omega]
    ·obtain ⟨f', h5, h6⟩ := b3 (i - (sz l p).toNat) (by omega)
     have e : p + (i + 1) = p + 1 + (sz l p).toNat + (i - (sz l p).toNat) := by omega
     refine ⟨f', by rw [e]; exact h5, ?_⟩
     rw [Cx, List.getElem?_cons_succ, List.getElem?_append_right (by rw [Ba, hc]; omega), Ba, hc, h6, ← e]
  ·obtain rfl : p = stop := by omega
   rw [fo, if_neg hp]
   exact ⟨by simp [Fo.cnt], by rw [Bj hp]; rfl, fun j hj => absurd hj (by omega)⟩
def Na (l : List Nd) : Fo := fo l l.length 0 l.length
theorem Lw {S : Nat → Int} {n : Nat} (h : Right S n) : (Ch S n 0).isSome = true := by
 have h1 := h.all
 have h2 := h.pos
 rw [Bx h.pos (by omega), Option.isSome_map, Bj (by omega)]
 rfl
theorem N4 {l : List Nd} (h : Right (sz l) l.length) : (Na l).cnt = l.length ∧ ∀ p, p < l.length → (Ag (Na l) p).1 = Ko (nd l p) ∧ (Ag (Na l) p).2.cnt = (sz l p).toNat ∧ Bn (sz l) p = C5 (Ag (Na l) p).2 (p + 1) := by
 obtain ⟨h1, h2, h3⟩ := a0j h.ok l.length 0 l.length (Nat.zero_le _) (Nat.le_refl _) (by omega) (Lw h)
 refine ⟨by rw [Na, h1]; omega, fun p hp => ?_⟩
 obtain ⟨f', h4, h5⟩ := h3 p (by omega)
 rw [Nat.zero_add] at h4 h5
 have e : Ag (Na l) p = (Ko (nd l p), fo l f' (p + 1) (p + 1 + (sz l p).toNat)) := by
  unfold Ag Na
  rw [List.getD_eq_getElem?_getD, h5]
  rfl
 have hk := h.ok p hp
 have hh := hk.high
 have hl := hk.low
 obtain ⟨c1, c2, _⟩ := a0j h.ok f' (p + 1) (p + 1 + (sz l p).toNat) (by omega) (by omega) (by omega) hk.kids
 rw [e]
 exact ⟨rfl, by rw [c1]; omega, c2.symm⟩
end Go.Proofs.YtoaplbljflhheaaGreat
