/-
 Contracts and plain facts on the way to PrettyBack. Conditions: as each says.
-/
import Derived.Test.YtoaplbljflhheaaGreatBal
set_option maxHeartbeats 40000000
set_option maxRecDepth 100000
set_option linter.unusedVariables false
set_option linter.unusedSimpArgs false
namespace Go.Proofs.YtoaplbljflhheaaGreat
open _root_.Go.Proofs.Tryz
section
open Go.RowKit
def Iu (num : Int) (p : Nat -> Bool) (p' : List Nat -> Bool) (ks : List Nat) : Bool := decide (0 <= num ∧ num <= ks.length) && ((ks.take num.toNat).all p && p' (ks.drop num.toNat))
theorem M1.take {w : World} {g o : Nat} {ks : List Nat} (h : M1 w (some ⟨g, o, none⟩) ks) (c : Nat) : M1 w (some ⟨g, o, none⟩) (ks.take c) := fun i hi => by
 rw [List.length_take] at hi;obtain ⟨g', o', h1, h2, h3⟩ := h i (by omega);cases h1;have e : (ks.take c).getD i 0 = ks.getD i 0 := by simp [List.getD, show i < c by omega]
 exact ⟨_, _, rfl, by rw [e]; exact h2, by rw [e]; exact h3⟩
theorem M1.drop {w : World} {g o : Nat} {ks : List Nat} (h : M1 w (some ⟨g, o, none⟩) ks) (c : Nat) : M1 w (some ⟨g, o + c, none⟩) (ks.drop c) := fun i hi => by
 rw [List.length_drop] at hi;obtain ⟨g', o', h1, h2, h3⟩ := h (c + i) (by omega);cases h1;have e : (ks.drop c).getD i 0 = ks.getD (c + i) 0 := by simp [List.getD]
 exact ⟨_, _, rfl, by rw [e, Nat.add_assoc]; exact h2, by rw [e]; exact h3⟩
theorem Uh {f' : FuncId} {caps' : Array Value} {w : World} {p' : List Nat -> Bool} {g o n cap c : Nat} {ks : List Nat} (hn : ks.length = n) (hc0 : c <= n) (hc1 : n <= cap) (hc2 : cap <= 1000000) (hr : M1 w (some ⟨g, o, none⟩) ks) {q : Bool} (hq : p' (ks.drop c) = q)
  (hc' : ∀ w', Below w.heap.size w w' -> ∀ (g o n cap : Nat) (ks : List Nat), ks.length = n -> n <= cap -> cap <= 1000000 -> M1 w' (some ⟨g, o, none⟩) ks -> ∀ q, p' ks = q -> Calls prog f' (#[.slice (some ⟨g, o, none⟩) n cap] ++ caps') w' fun e w'' => e = .returned (.bool q) ∧ Below w'.heap.size w' w'') :
  ∀ w1, Below w.heap.size w w1 -> Calls prog f' (#[.slice (if cap = c then some ⟨g, o, none⟩ else some ⟨g, o + c, none⟩) (n - c) (cap - c)] ++ caps') w1 fun e w'' => e = .returned (.bool q) ∧ Below w1.heap.size w1 w'' := by
 intro w1 h;by_cases e : cap = c
 ·rw [if_pos e];have : ks.drop c = [] := List.drop_of_length_le (by omega);exact hc' w1 h g o (n - c) (cap - c) (ks.drop c) (by rw [List.length_drop, hn]) (by omega) (by omega) (by rw [this]; intro i hi; simp at hi) q hq
 ·rw [if_neg e];exact hc' w1 h g (o + c) (n - c) (cap - c) (ks.drop c) (by rw [List.length_drop, hn]) (by omega) (by omega) ((hr.carry h).drop c) q hq
theorem a4w (b1 b2 b3 : Nat) (c : Nat) (v v' : Value) (p : Nat -> Bool) (p' : List Nat -> Bool) (w : World) (hk : Hid (KT w v p)) (hk' : Hid (RT w v' p')) (hb1 : w.cell? ⟨b1, 0, none⟩ = some (.int .i64 (c : Nat))) (hb2 : w.cell? ⟨b2, 0, none⟩ = some v) (hb3 : w.cell? ⟨b3, 0, none⟩ = some v')
  (g o n cap : Nat) (ks : List Nat) (hn : Hid (ks.length = n)) (hc0 : c <= n) (hc1 : n <= cap) (hc2 : cap <= 1000000) (hcc : ¬ cap = c) (hr : Hid (M1 w (some ⟨g, o, none⟩) ks)) (q2 : Bool) (hq1 : Hid ((ks.take c).all p = true)) (hq2 : Hid (p' (ks.drop c) = q2)) :
  Calls prog 112 #[.slice (some ⟨g, o, none⟩) n cap, .pointer (some ⟨b1, 0, none⟩), .pointer (some ⟨b2, 0, none⟩), .pointer (some ⟨b3, 0, none⟩)] w fun e w' => e = .returned (.bool q2) ∧ Below w.heap.size w w' := by
 have HE := zz (fun w1 (h : Below w.heap.size w w1) => Jh v p w1 (hk.out.carry h));obtain ⟨f, caps, rfl, eg, hc⟩ := hk.out;obtain ⟨f', caps', rfl, eg', hc'⟩ := hk'.out;clear hk hk' hc;have HC' := zz (Uh hn.out hc0 hc1 hc2 hr.out hq2.out hc');simp only [if_neg hcc] at HC';clear hc';have g1 : (0 : Int) <= (c : Int) := by omega
 have g2 : (c : Int) <= (n : Int) := by omega
 have g3 : (c : Int) <= (cap : Int) := by omega
 have g4 : decide ((c : Int) < 0) = false := by simp
 go_enter func112, ntmps112;go_wp2_with fail
 go_region_held3 (fun w' => w'.cell? ⟨b1, 0, none⟩ = some (.int .i64 (c : Nat)) ∧ w'.cell? ⟨b2, 0, none⟩ = some (.func (.func f) #[] caps) ∧ w'.cell? ⟨b3, 0, none⟩ = some (.func (.func f') #[] caps')) (go_keep)
  (first
   | (go_at_call 73; refine (HE.out _ ((Below.refl _ _).drew)).mono ?_; rintro e w1 ⟨v1, rfl, ⟨f1, caps1, rfl, eg1, hc1⟩, hb⟩; have hb0 := Ab ((Below.refl w.heap.size w).drew) hb; have d1 := Ac hb0 hb1; have d2 := Ac hb0 hb2; have d3 := Ac hb0 hb3; replace hc1 := zz hc1; replace hb0 := zz hb0; clear hb)
   | (refine ((hc1.out _ (Below.refl _ _) g o c cap (ks.take c) (by rw [List.length_take, hn.out]; omega) (by omega) hc2 ((hr.out.carry hb0.out).take c) true hq1.out)).mono ?_; rintro e w2 ⟨rfl, hb⟩; have hb0' := Ab hb0.out hb; have d1 := Ac hb0' hb1; have d2 := Ac hb0' hb2; have d3 := Ac hb0' hb3; replace hb0 := zz hb0'; clear hb)
   | (refine (HC'.out _ hb0.out).mono ?_; rintro e w3 ⟨rfl, hb⟩; have hb0' := Ab hb0.out hb; have d1 := Ac hb0' hb1; have d2 := Ac hb0' hb2; have d3 := Ac hb0' hb3; replace hb0 := zz hb0'; clear hb))
 go_wp2_with fail;go_ret;exact ⟨rfl, hb0.out⟩
theorem a4v (b1 b2 b3 : Nat) (c : Nat) (v v' : Value) (p : Nat -> Bool) (p' : List Nat -> Bool) (w : World) (hk : Hid (KT w v p)) (hk' : Hid (RT w v' p')) (hb1 : w.cell? ⟨b1, 0, none⟩ = some (.int .i64 (c : Nat))) (hb2 : w.cell? ⟨b2, 0, none⟩ = some v) (hb3 : w.cell? ⟨b3, 0, none⟩ = some v')
  (g o : Nat) (ks : List Nat) (hn : Hid (ks.length = c)) (hc2 : c <= 1000000) (hr : Hid (M1 w (some ⟨g, o, none⟩) ks)) (q2 : Bool) (hq1 : Hid ((ks.take c).all p = true)) (hq2 : Hid (p' (ks.drop c) = q2)) :
  Calls prog 112 #[.slice (some ⟨g, o, none⟩) c c, .pointer (some ⟨b1, 0, none⟩), .pointer (some ⟨b2, 0, none⟩), .pointer (some ⟨b3, 0, none⟩)] w fun e w' => e = .returned (.bool q2) ∧ Below w.heap.size w w' := by
 have HE := zz (fun w1 (h : Below w.heap.size w w1) => Jh v p w1 (hk.out.carry h));obtain ⟨f, caps, rfl, eg, hc⟩ := hk.out;obtain ⟨f', caps', rfl, eg', hc'⟩ := hk'.out;clear hk hk' hc;have HC' := zz (Uh hn.out (Nat.le_refl _) (Nat.le_refl _) hc2 hr.out hq2.out hc');simp only [if_true, Nat.sub_self] at HC';clear hc';have g1 : (0 : Int) <= (c : Int) := by omega
 have g4 : decide ((c : Int) < 0) = false := by simp
 go_enter func112, ntmps112;go_wp2_with fail
 go_region_held3 (fun w' => w'.cell? ⟨b1, 0, none⟩ = some (.int .i64 (c : Nat)) ∧ w'.cell? ⟨b2, 0, none⟩ = some (.func (.func f) #[] caps) ∧ w'.cell? ⟨b3, 0, none⟩ = some (.func (.func f') #[] caps')) (go_keep)
  (first
   | (go_at_call 73; refine (HE.out _ ((Below.refl _ _).drew)).mono ?_; rintro e w1 ⟨v1, rfl, ⟨f1, caps1, rfl, eg1, hc1⟩, hb⟩; have hb0 := Ab ((Below.refl w.heap.size w).drew) hb; have d1 := Ac hb0 hb1; have d2 := Ac hb0 hb2; have d3 := Ac hb0 hb3; replace hc1 := zz hc1; replace hb0 := zz hb0; clear hb)
   | (refine ((hc1.out _ (Below.refl _ _) g o c c (ks.take c) (by rw [List.length_take, hn.out]; omega) (by omega) hc2 ((hr.out.carry hb0.out).take c) true hq1.out)).mono ?_; rintro e w2 ⟨rfl, hb⟩; have hb0' := Ab hb0.out hb; have d1 := Ac hb0' hb1; have d2 := Ac hb0' hb2; have d3 := Ac hb0' hb3; replace hb0 := zz hb0'; clear hb)
   | (refine (HC'.out _ hb0.out).mono ?_; rintro e w3 ⟨rfl, hb⟩; have hb0' := Ab hb0.out hb; have d1 := Ac hb0' hb1; have d2 := Ac hb0' hb2; have d3 := Ac hb0' hb3; replace hb0 := zz hb0'; clear hb))
 go_wp2_with fail;go_ret;exact ⟨rfl, hb0.out⟩
theorem a9x (b1 b2 b3 : Nat) (c : Nat) (v v' : Value) (p : Nat -> Bool) (p' : List Nat -> Bool) (w : World) (hk : Hid (KT w v p)) (hk' : Hid (RT w v' p')) (hb1 : w.cell? ⟨b1, 0, none⟩ = some (.int .i64 (c : Nat))) (hb2 : w.cell? ⟨b2, 0, none⟩ = some v) (hb3 : w.cell? ⟨b3, 0, none⟩ = some v')
  (g o n cap : Nat) (ks : List Nat) (hn : Hid (ks.length = n)) (hc0 : c <= n) (hc1 : n <= cap) (hc2 : cap <= 1000000) (hr : Hid (M1 w (some ⟨g, o, none⟩) ks)) (hq1 : Hid ((ks.take c).all p = false)) :
  Calls prog 112 #[.slice (some ⟨g, o, none⟩) n cap, .pointer (some ⟨b1, 0, none⟩), .pointer (some ⟨b2, 0, none⟩), .pointer (some ⟨b3, 0, none⟩)] w fun e w' => e = .returned (.bool false) ∧ Below w.heap.size w w' := by
 have HE := zz (fun w1 (h : Below w.heap.size w w1) => Jh v p w1 (hk.out.carry h));obtain ⟨f, caps, rfl, eg, hc⟩ := hk.out;obtain ⟨f', caps', rfl, eg', hc'⟩ := hk'.out;clear hk hk' hc;clear hc';have g1 : (0 : Int) <= (c : Int) := by omega
 have g2 : (c : Int) <= (n : Int) := by omega
 have g3 : (c : Int) <= (cap : Int) := by omega
 have g4 : decide ((c : Int) < 0) = false := by simp
 go_enter func112, ntmps112;go_wp2_with fail;refine wp_region_noPanic (wp_region_held (S := fun w' => w'.cell? ⟨b1, 0, none⟩ = some (.int .i64 (c : Nat)) ∧ w'.cell? ⟨b2, 0, none⟩ = some (.func (.func f) #[] caps)) (by kernel_rfl) ?_);have hS : w.drew.cell? ⟨b1, 0, none⟩ = some (.int .i64 (c : Nat)) ∧ w.drew.cell? ⟨b2, 0, none⟩ = some (.func (.func f) #[] caps) := ⟨hb1, hb2⟩;refine wpAnyH_take (i := 0) (v := .func (.func f) #[] caps) rfl (by kernel_rfl) (by kernel_rfl) (by kernel_rfl) (fun _ _ _ h => h) (Or.inl ⟨by rfl, fun w hSw => by (obtain ⟨s1, s2⟩ := hSw; go_simp)⟩) hS ?_;simp only [Act.put, List.getElem_toArray, List.getElem_cons_succ, List.getElem_cons_zero, List.setIfInBounds_toArray, List.set_cons_zero, List.set_cons_succ];refine wpAnyH_take (i := 2) (v := .slice (some ⟨g, o, none⟩) n cap) rfl (by kernel_rfl) (by kernel_rfl) (by kernel_rfl) (fun _ _ _ h => h) (Or.inl ⟨by rfl, fun w hSw => by go_simp⟩) hS ?_;simp only [Act.put, List.getElem_toArray, List.getElem_cons_succ, List.getElem_cons_zero, List.setIfInBounds_toArray, List.set_cons_zero, List.set_cons_succ];refine wpAnyH_take (i := 3) (v := .int .i64 (c : Nat)) rfl (by kernel_rfl) (by kernel_rfl) (by kernel_rfl) (fun _ _ _ h => h) (Or.inl ⟨by rfl, fun w hSw => by (obtain ⟨s1, s2⟩ := hSw; go_simp)⟩) hS ?_;simp only [Act.put, List.getElem_toArray, List.getElem_cons_succ, List.getElem_cons_zero, List.setIfInBounds_toArray, List.set_cons_zero, List.set_cons_succ];refine wpAnyH_take (i := 4) (v := .slice (some ⟨g, o, none⟩) c cap) rfl (by kernel_rfl) (by kernel_rfl) (by kernel_rfl) (fun _ _ _ h => h) (Or.inl ⟨by rfl, fun w hSw => by go_simp⟩) hS ?_;simp only [Act.put, List.getElem_toArray, List.getElem_cons_succ, List.getElem_cons_zero, List.setIfInBounds_toArray, List.set_cons_zero, List.set_cons_succ];refine wpAnyH_all (rs := [1]) (by kernel_rfl) (by simp) ?_;intro i hi;obtain rfl : i = 1 := by simpa using hi
 refine Bw rfl rfl ?_;unfold Oper.wp;go_simp;refine (HE.out _ ((Below.refl _ _).drew)).mono ?_;rintro e w1 ⟨v1, rfl, ⟨f1, caps1, rfl, eg1, hc1⟩, hb⟩;have hb0 := Ab ((Below.refl w.heap.size w).drew) hb;have hS1 : w1.cell? ⟨b1, 0, none⟩ = some (.int .i64 (c : Nat)) ∧ w1.cell? ⟨b2, 0, none⟩ = some (.func (.func f) #[] caps) := ⟨Ac hb0 hb1, Ac hb0 hb2⟩;have HC1 := zz (hc1 w1 (Below.refl _ _) g o c cap (ks.take c) (by rw [List.length_take, hn.out]; omega) (by omega) hc2 ((hr.out.carry hb0).take c) false hq1.out);replace hb0 := zz hb0;clear hc1 hb hS;refine ⟨hS1, ?_⟩;refine wpAnyH_all (rs := [5]) (by kernel_rfl) (by simp) ?_;intro i hi;obtain rfl : i = 5 := by simpa using hi
 refine Bw rfl rfl ?_;unfold Oper.wp;go_simp;refine HC1.out.mono ?_;rintro e w2 ⟨rfl, hb⟩;have hb2' := Ab hb0.out hb;have hS2 : w2.cell? ⟨b1, 0, none⟩ = some (.int .i64 (c : Nat)) ∧ w2.cell? ⟨b2, 0, none⟩ = some (.func (.func f) #[] caps) := ⟨Ac hb2' hb1, Ac hb2' hb2⟩;replace hb2' := zz hb2';clear hb hS1;refine ⟨hS2, ?_⟩;refine wpAnyH_take (i := 6) (v := .bool false) rfl (by kernel_rfl) (by kernel_rfl) (by kernel_rfl) (fun _ _ _ h => h) (Or.inl ⟨by rfl, fun w hSw => by go_simp⟩) hS2 ?_;simp only [Act.put, List.getElem_toArray, List.getElem_cons_succ, List.getElem_cons_zero, List.setIfInBounds_toArray, List.set_cons_zero, List.set_cons_succ];refine wpAnyH_take (i := 7) (v := undef) rfl (by kernel_rfl) (by kernel_rfl) (by kernel_rfl) (fun _ _ _ h => h) (Or.inr ⟨by rfl, rfl⟩) hS2 ?_;simp only [Act.put, List.getElem_toArray, List.getElem_cons_succ, List.getElem_cons_zero, List.setIfInBounds_toArray, List.set_cons_zero, List.set_cons_succ];refine wpAnyH_take (i := 8) (v := undef) rfl (by kernel_rfl) (by kernel_rfl) (by kernel_rfl) (fun _ _ _ h => h) (Or.inr ⟨by rfl, rfl⟩) hS2 ?_;simp only [Act.put, List.getElem_toArray, List.getElem_cons_succ, List.getElem_cons_zero, List.setIfInBounds_toArray, List.set_cons_zero, List.set_cons_succ];refine wpAnyH_take (i := 9) (v := undef) rfl (by kernel_rfl) (by kernel_rfl) (by kernel_rfl) (fun _ _ _ h => h) (Or.inr ⟨by rfl, rfl⟩) hS2 ?_;simp only [Act.put, List.getElem_toArray, List.getElem_cons_succ, List.getElem_cons_zero, List.setIfInBounds_toArray, List.set_cons_zero, List.set_cons_succ];refine wpAnyH_take (i := 10) (v := undef) rfl (by kernel_rfl) (by kernel_rfl) (by kernel_rfl) (fun _ _ _ h => h) (Or.inr ⟨by rfl, rfl⟩) hS2 ?_;simp only [Act.put, List.getElem_toArray, List.getElem_cons_succ, List.getElem_cons_zero, List.setIfInBounds_toArray, List.set_cons_zero, List.set_cons_succ];refine wpAnyH_take (i := 11) (v := undef) rfl (by kernel_rfl) (by kernel_rfl) (by kernel_rfl) (fun _ _ _ h => h) (Or.inr ⟨by rfl, rfl⟩) hS2 ?_;simp only [Act.put, List.getElem_toArray, List.getElem_cons_succ, List.getElem_cons_zero, List.setIfInBounds_toArray, List.set_cons_zero, List.set_cons_succ];refine wpAnyH_take (i := 12) (v := .bool false) rfl (by kernel_rfl) (by kernel_rfl) (by kernel_rfl) (fun _ _ _ h => h) (Or.inl ⟨by rfl, fun w hSw => by go_simp⟩) hS2 ?_;simp only [Act.put, List.getElem_toArray, List.getElem_cons_succ, List.getElem_cons_zero, List.setIfInBounds_toArray, List.set_cons_zero, List.set_cons_succ];refine wpAnyH_take (i := 13) (v := .bool false) rfl (by kernel_rfl) (by kernel_rfl) (by kernel_rfl) (fun _ _ _ h => h) (Or.inl ⟨by rfl, fun w hSw => by go_simp⟩) hS2 ?_;refine wpAnyH_done (by kernel_rfl) ?_ _;refine NoPanic.normal ?_;simp only [Act.put, List.getElem_toArray, List.getElem_cons_succ, List.getElem_cons_zero, List.setIfInBounds_toArray, List.set_cons_zero, List.set_cons_succ];go_wp2_with fail;go_ret;exact ⟨rfl, hb2'.out⟩
theorem Vc (b1 b2 b3 : Nat) (num : Int) (hnum : Bg num) (v v' : Value) (p : Nat -> Bool) (p' : List Nat -> Bool) (w : World) (hk : KT w v p) (hk' : RT w v' p') (hb1 : w.cell? ⟨b1, 0, none⟩ = some (.int .i64 num)) (hb2 : w.cell? ⟨b2, 0, none⟩ = some v) (hb3 : w.cell? ⟨b3, 0, none⟩ = some v')
  (g o n cap : Nat) (ks : List Nat) (hn : ks.length = n) (hc1 : n <= cap) (hc2 : cap <= 1000000) (hr : M1 w (some ⟨g, o, none⟩) ks) (q : Bool) (hq : Iu num p p' ks = q) :
  Calls prog 112 #[.slice (some ⟨g, o, none⟩) n cap, .pointer (some ⟨b1, 0, none⟩), .pointer (some ⟨b2, 0, none⟩), .pointer (some ⟨b3, 0, none⟩)] w fun e w' => e = .returned (.bool q) ∧ Below w.heap.size w w' := by
 unfold Iu at hq;rw [hn] at hq;by_cases h0 : 0 <= num
 ·by_cases h1 : num <= n
  ·obtain ⟨c, rfl⟩ : ∃ c : Nat, num = c := ⟨num.toNat, by omega⟩;rw [Int.toNat_natCast, show decide (0 <= (c : Int) ∧ (c : Int) <= n) = true by simp; omega, Bool.true_and] at hq
   cases h2 : (ks.take c).all p with
   | true =>
    rw [h2, Bool.true_and] at hq;by_cases hcc : cap = c
    ·obtain rfl : n = c := by omega
     subst hcc;exact a4v b1 b2 b3 cap v v' p p' w (zz hk) (zz hk') hb1 hb2 hb3 g o ks (zz hn) hc2 (zz hr) q (zz h2) (zz hq)
    ·exact a4w b1 b2 b3 c v v' p p' w (zz hk) (zz hk') hb1 hb2 hb3 g o n cap ks (zz hn) (by omega) hc1 hc2 hcc (zz hr) q (zz h2) (zz hq)
   | false =>
    rw [h2, Bool.false_and] at hq;subst hq;exact a9x b1 b2 b3 c v v' p p' w (zz hk) (zz hk') hb1 hb2 hb3 g o n cap ks (zz hn) (by omega) hc1 hc2 (zz hr) (zz h2)
  ·rw [show decide (0 <= num ∧ num <= n) = false by simp [h1], Bool.false_and] at hq;subst hq;clear hk hk' hb2 hb3 hr hn;have h1' : (n : Int) < num := by omega
   have h0' : ¬ num < 0 := by omega
   go_enter func112, ntmps112;go_wp2_with fail;go_ret;exact ⟨rfl, Below.refl _ _⟩
 ·rw [show decide (0 <= num ∧ num <= n) = false by simp [h0], Bool.false_and] at hq;subst hq;clear hk hk' hb2 hb3 hr hn;go_enter func112, ntmps112;go_wp2_with fail;go_ret;exact ⟨rfl, Below.refl _ _⟩
theorem Xp (num : Int) (hnum : Bg num) (v v' : Value) (p : Nat -> Bool) (p' : List Nat -> Bool) (w : World) (hk : KT w v p) (hk' : RT w v' p') :
  Calls prog 76 #[.int .i64 num, v, v'] w fun e w' => ∃ u, e = .returned u ∧ RT w' u (Iu num p p') ∧ Below w.heap.size w w' := by
 have hbb : Below w.heap.size w (((w.alloc (.cells #[.int .i64 num] 2)).alloc (.cells #[v] 96)).alloc (.cells #[v'] 56)) := by go_grown
 have HK : Hid (RT (((w.alloc (.cells #[.int .i64 num] 2)).alloc (.cells #[v] 96)).alloc (.cells #[v'] 56)) (.func (.func 112) #[] #[.pointer (some ⟨w.heap.size, 0, none⟩), .pointer (some ⟨w.heap.size + 1, 0, none⟩), .pointer (some ⟨w.heap.size + 1 + 1, 0, none⟩)]) (Iu num p p')) := zz
  ⟨112, _, rfl, by intro args w; simp [go_sem], fun w' hb g o n cap ks h1 h2 h3 h4 q hq => Vc w.heap.size (w.heap.size + 1) (w.heap.size + 1 + 1) num hnum v v' p p' w' ((hk.carry hbb).carry hb) ((hk'.carry hbb).carry hb) (Ac hb (by simp [go_sem])) (Ac hb (by simp [go_sem])) (Ac hb (by simp [go_sem])) g o n cap ks h1 h2 h3 h4 q hq⟩
 replace hbb := zz hbb;obtain ⟨f, caps, rfl, _⟩ := hk;obtain ⟨f', caps', rfl, _⟩ := hk';go_enter func76, ntmps76;go_wp2_with fail;go_ret;exact ⟨_, rfl, HK.out, hbb.out⟩
end
end Go.Proofs.YtoaplbljflhheaaGreat
