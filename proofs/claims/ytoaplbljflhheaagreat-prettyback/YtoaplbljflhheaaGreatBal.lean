/-
 Contracts and plain facts on the way to PrettyBack. Conditions: as each says.
-/
import Derived.Deep.RegionHeld3
import Derived.Test.YtoaplbljflhheaaGreatBag
set_option maxHeartbeats 40000000
set_option maxRecDepth 100000
set_option linter.unusedVariables false
set_option linter.unusedSimpArgs false
namespace Go.Proofs.YtoaplbljflhheaaGreat
open _root_.Go.Proofs.Tryz
section
open Go.RowKit
def b1r (w : World) (a : Option Addr) (ps : List (Nat -> Bool)) : Prop := ∀ i, i < ps.length -> ∃ g o v, a = some ⟨g, o, none⟩ ∧ w.cell? ⟨g, o + i, none⟩ = some v ∧ KT w v (ps.getD i fun _ => false)
theorem b1r.carry {w w' : World} {a : Option Addr} {ps : List (Nat -> Bool)} (h : b1r w a ps) (hb : Below w.heap.size w w') : b1r w' a ps := fun i hi => by
 obtain ⟨g, o, v, h1, h2, h3⟩ := h i hi;exact ⟨g, o, v, h1, Ac hb h2, h3.carry hb⟩
def Ak (ps : List (Nat -> Bool)) (ks : List Nat) : Bool := decide (ks.length = ps.length) && (List.range ps.length).all fun i => (ps.getD i fun _ => false) (ks.getD i 0)
theorem a41 (b : Nat) (a : Option Addr) (m cap : Nat) (ps : List (Nat -> Bool)) (w : World) (hm : Hid (ps.length = m)) (hml : m <= 1000000) (ht : Hid (b1r w a ps)) (hb : w.cell? ⟨b, 0, none⟩ = some (.slice a m cap))
  (a' : Option Addr) (n cap' : Nat) (ks : List Nat) (hn : Hid (ks.length = n)) (hl : n <= 1000000) (hr : Hid (M1 w a' ks)) (q : Bool) (hq : Hid (Ak ps ks = q)) :
  Calls prog 111 #[.slice a' n cap', .pointer (some ⟨b, 0, none⟩)] w fun e w' => e = .returned (.bool q) ∧ w = w' := by
 by_cases hnm : n = m
 ·subst hnm;have e0 : ((n : Int) != (n : Int)) = false := by simp
  go_enter func111, ntmps111;go_wp2_with fail
  go_loop [13] (fun j => ∃ k : Nat, k <= n ∧ j = .int .i64 k ∧ ∀ k', k' < k -> (ps.getD k' fun _ => false) (ks.getD k' 0) = true) (fun j => n - (intOf j).toNat)
  case atStart => exact ⟨0, Nat.zero_le _, rfl, fun k' h => absurd h (by omega)⟩
  case round =>
   obtain ⟨k, hk, rfl, hall⟩ := hrel;replace hall := zz hall;by_cases hlt : k < n
   ·obtain ⟨g, o, rfl, hcell, hk2⟩ := hr.out k (by rw [hn.out]; exact hlt);obtain ⟨g', o', v, rfl, hcell', hkt⟩ := ht.out k (by rw [hm.out]; exact hlt);obtain ⟨d, hd⟩ : ∃ d, ks.getD k 0 = d := ⟨_, rfl⟩;obtain ⟨p, hp0⟩ : ∃ p, (ps.getD k fun _ => false) = p := ⟨_, rfl⟩;rw [hd] at hcell hk2;rw [hp0] at hkt;obtain ⟨f, caps, rfl, eg, hc⟩ := hkt;have HC := zz (hc w (Below.refl _ _) d hk2);clear hc
    cases hp : p d with
    | true =>
     have HN := zz (show ∀ k', k' < k + 1 -> (ps.getD k' fun _ => false) (ks.getD k' 0) = true from fun k' h => by
      by_cases e : k' = k
      ·subst e; rw [hp0, hd]; exact hp
      ·exact hall.out k' (by omega))
     replace hp := zz hp;clear hd hp0;go_wp2_with fail;refine (HC.out true hp.out).mono ?_;rintro e w' ⟨rfl, rfl⟩;go_wp2_with fail
     go_round
     case rel => exact ⟨k + 1, hlt, by go_num, HN.out⟩
     case measure => simp [intOf]; omega
    | false =>
     have hq' : q = false := by
      rw [<- hq.out, Ak, Bool.and_eq_false_iff];right;rw [List.all_eq_false];exact ⟨k, by rw [List.mem_range, hm.out]; exact hlt, by rw [hp0, hd, hp]; simp⟩
     subst hq';replace hp := zz hp;clear hd hp0;go_wp2_with fail;refine (HC.out false hp.out).mono ?_;rintro e w' ⟨rfl, rfl⟩;go_wp2_with fail;go_ret;exact ⟨rfl, rfl⟩
   ·have hq' : q = true := by
     rw [<- hq.out, Ak, hn.out, hm.out];simp only [decide_true, Bool.true_and, List.all_eq_true, List.mem_range];intro i hi;exact hall.out i (by omega)
    subst hq';go_wp2_with fail;go_ret;exact ⟨rfl, rfl⟩
 ·have hq' : q = false := by
   rw [<- hq.out, Ak, hn.out, hm.out];simp [hnm]
  subst hq';have e0 : ((n : Int) != (m : Int)) = true := by rw [bne_iff_ne]; omega
  go_enter func111, ntmps111;go_wp2_with fail;go_ret;exact ⟨rfl, rfl⟩
theorem C8 (a : Option Addr) (m cap : Nat) (ps : List (Nat -> Bool)) (w : World) (hm : ps.length = m) (hml : m <= 1000000) (ht : b1r w a ps) :
  Calls prog 74 #[.slice a m cap] w fun e w' => ∃ v', e = .returned v' ∧ RT w' v' (Ak ps) ∧ Below w.heap.size w w' := by
 have HK : Hid (RT (w.alloc (.cells #[.slice a m cap] 131)) (.func (.func 111) #[] #[.pointer (some ⟨w.heap.size, 0, none⟩)]) (Ak ps)) := zz
  ⟨111, _, rfl, by intro args w; simp [go_sem], fun w' hb g o n cap' ks h1 h2 h3 h4 q hq => Eh (a41 w.heap.size a m cap ps w' (zz hm) hml (zz ((ht.carry (Aa _ _)).carry hb)) (Ac hb (by simp [go_sem])) _ n cap' ks (zz h1) (by omega) (zz h4) q (zz hq))⟩
 clear hm ht;go_enter func74, ntmps74;go_wp2_with fail;go_ret;exact ⟨_, rfl, HK.out, Aa _ _⟩
theorem Xy (b b' : Nat) (v v' : Value) (p p' : List Nat -> Bool) (w : World) (hk : Hid (RT w v p)) (hk' : Hid (RT w v' p')) (hb : w.cell? ⟨b, 0, none⟩ = some v) (hb' : w.cell? ⟨b', 0, none⟩ = some v')
  (g o n cap : Nat) (ks : List Nat) (hn : Hid (ks.length = n)) (hc1 : n <= cap) (hc2 : cap <= 1000000) (hr : Hid (M1 w (some ⟨g, o, none⟩) ks)) (q : Bool) (hq : Hid ((p ks || p' ks) = q)) :
  Calls prog 113 #[.slice (some ⟨g, o, none⟩) n cap, .pointer (some ⟨b, 0, none⟩), .pointer (some ⟨b', 0, none⟩)] w fun e w' => e = .returned (.bool q) ∧ Below w.heap.size w w' := by
 obtain ⟨f, caps, rfl, eg, hc⟩ := hk.out;obtain ⟨f', caps', rfl, eg', hc'⟩ := hk'.out;clear hk hk';have HC := zz (hc w (Below.refl _ _) g o n cap ks hn.out hc1 hc2 hr.out);have HC' := zz (fun w' (h : Below w.heap.size w w') => hc' w' h g o n cap ks hn.out hc1 hc2 (hr.out.carry h));clear hc hc'
 cases hp : p ks with
 | true =>
  have hq' : q = true := by rw [<- hq.out, hp]; rfl
  subst hq';replace hp := zz hp;go_enter func113, ntmps113;go_wp2_with fail;refine (HC.out true hp.out).mono ?_;rintro e w1 ⟨rfl, hb1⟩;replace hb1 := zz hb1;go_wp2_with fail;go_ret
  exact ⟨rfl, hb1.out⟩
 | false =>
  have hq' : p' ks = q := by rw [<- hq.out, hp]; rfl
  replace hq' := zz hq';replace hp := zz hp;go_enter func113, ntmps113;go_wp2_with fail;refine (HC.out false hp.out).mono ?_;rintro e w1 ⟨rfl, hb1⟩;have c1 := Ac hb1 hb';have HC2 := zz (HC'.out w1 hb1);replace hb1 := zz hb1;go_wp2_with fail;refine (HC2.out q hq'.out).mono ?_;rintro e w2 ⟨rfl, hb2⟩;replace hb2 := zz hb2;go_wp2_with fail;go_ret;exact ⟨rfl, Ab hb1.out hb2.out⟩
theorem Ng (v v' : Value) (p p' : List Nat -> Bool) (w : World) (hk : RT w v p) (hk' : RT w v' p') :
  Calls prog 80 #[v, v'] w fun e w' => ∃ u, e = .returned u ∧ RT w' u (fun ks => p ks || p' ks) ∧ Below w.heap.size w w' := by
 have hbb : Below w.heap.size w ((w.alloc (.cells #[v] 56)).alloc (.cells #[v'] 56)) := by go_grown
 have HK : Hid (RT ((w.alloc (.cells #[v] 56)).alloc (.cells #[v'] 56)) (.func (.func 113) #[] #[.pointer (some ⟨w.heap.size, 0, none⟩), .pointer (some ⟨w.heap.size + 1, 0, none⟩)]) (fun ks => p ks || p' ks)) := zz
  ⟨113, _, rfl, by intro args w; simp [go_sem], fun w' hb g o n cap ks h1 h2 h3 h4 q hq => Xy w.heap.size (w.heap.size + 1) v v' p p' w' (zz ((hk.carry hbb).carry hb)) (zz ((hk'.carry hbb).carry hb)) (Ac hb (by simp [go_sem])) (Ac hb (by simp [go_sem])) g o n cap ks (zz h1) h2 h3 (zz h4) q (zz hq)⟩
 replace hbb := zz hbb;obtain ⟨f, caps, rfl, _⟩ := hk;obtain ⟨f', caps', rfl, _⟩ := hk';go_enter func80, ntmps80;go_wp2_with fail;go_ret;exact ⟨_, rfl, HK.out, hbb.out⟩
end
end Go.Proofs.YtoaplbljflhheaaGreat
