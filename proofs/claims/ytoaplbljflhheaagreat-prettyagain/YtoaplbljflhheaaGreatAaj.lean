/-
 Contracts and plain facts on the way to PrettyAgain. Conditions: as each says.
-/
import Derived.Test.YtoaplbljflhheaaGreatAae
import Derived.Test.YtoaplbljflhheaaGreatAab
set_option maxHeartbeats 40000000
set_option maxRecDepth 100000
set_option linter.unusedVariables false
set_option linter.unusedSimpArgs false
namespace Go.Proofs.YtoaplbljflhheaaGreat
open _root_.Go.Proofs.Tryz
section
def Da (S : Nat → Int) (stop k : Nat) : Option (List Nat) :=
 if h : k < stop then
  if S k < 0 ∨ (stop : Int) - 1 - k < S k then none else (Da S stop (k + 1 + (S k).toNat)).map (k :: ·)
 else some []
termination_by stop - k
decreasing_by omega
theorem B0 {S : Nat → Int} {stop k : Nat} (h : ¬ k < stop) : Da S stop k = some [] := by rw [Da, dif_neg h]
theorem Ds {S : Nat → Int} {stop k : Nat} (h : k < stop) (hb : S k < 0 ∨ (stop : Int) - 1 - k < S k) : Da S stop k = none := by rw [Da, dif_pos h, if_pos hb]
theorem Ch {S : Nat → Int} {stop k : Nat} (h : k < stop) (hb : ¬ (S k < 0 ∨ (stop : Int) - 1 - k < S k)) : Da S stop k = (Da S stop (k + 1 + (S k).toNat)).map (k :: ·) := by rw [Da, dif_pos h, if_neg hb]
structure Ok (S : Nat → Int) (n j : Nat) : Prop where
 low : 0 ≤ S j
 high : j + S j ≤ (n : Int) - 1
 kids : (Da S (j + 1 + (S j).toNat) (j + 1)).isSome = true
def B7 (S : Nat → Int) (j : Nat) : List Nat := (Da S (j + 1 + (S j).toNat) (j + 1)).getD []
structure Right (S : Nat → Int) (n : Nat) : Prop where
 pos : 0 < n
 all : S 0 = (n : Int) - 1
 ok : ∀ j, j < n → Ok S n j
theorem P9 {S : Nat → Int} {stop : Nat} : ∀ {d k : Nat}, stop - k ≤ d → ∀ {l : List Nat}, Da S stop k = some l → ∀ x, x ∈ l → k ≤ x ∧ x < stop ∧ 0 ≤ S x ∧ x + S x ≤ (stop : Int) - 1 := by
 intro d
 induction d with
 | zero =>
  intro k hd l h x hx;rw [B0 (by omega)] at h
  cases h; cases hx
 | succ d ih =>
  intro k hd l h x hx;by_cases hk : k < stop
  ·by_cases hb : S k < 0 ∨ (stop : Int) - 1 - k < S k
   ·rw [Ds hk hb] at h; cases h
   ·rw [Ch hk hb] at h;obtain ⟨m, hm, rfl⟩ := Option.map_eq_some_iff.1 h;rcases List.mem_cons.1 hx with rfl | hx
    ·omega
    ·have := ih (by omega) hm x hx;omega
  ·rw [B0 hk] at h;cases h; cases hx
theorem Lu {S : Nat → Int} {stop : Nat} : ∀ {d k : Nat}, stop - k ≤ d → ∀ {l : List Nat}, Da S stop k = some l → ∀ y, k ≤ y → y < stop → ∃ x, x ∈ l ∧ x ≤ y ∧ (y : Int) ≤ x + S x := by
 intro d
 induction d with
 | zero => intro k hd l h y h1 h2; omega
 | succ d ih =>
  intro k hd l h y h1 h2;have hk : k < stop := by omega
  by_cases hb : S k < 0 ∨ (stop : Int) - 1 - k < S k
  ·rw [Ds hk hb] at h; cases h
  ·rw [Ch hk hb] at h;obtain ⟨m, hm, rfl⟩ := Option.map_eq_some_iff.1 h;by_cases hy : y < k + 1 + (S k).toNat
   ·exact ⟨k, by simp, h1, by omega⟩
   ·obtain ⟨x, hx, hx1, hx2⟩ := ih (by omega) hm y (by omega) h2;exact ⟨x, by simp [hx], hx1, hx2⟩
theorem Hh {S : Nat → Int} {n j : Nat} (h : Ok S n j) : Da S (j + 1 + (S j).toNat) (j + 1) = some (B7 S j) := by
 have := h.kids;unfold B7
 cases hc : Da S (j + 1 + (S j).toNat) (j + 1) with
 | none => rw [hc] at this; cases this
 | some l => rfl
def a6u (S : Nat → Int) (y : Nat) : Nat → Int
 | 0 => -1
 | j + 1 => if (y : Int) - j ≤ S j then j else a6u S y j
def c15 (S : Nat → Int) (y : Nat) : Int := a6u S y y
theorem a1s {S : Nat → Int} {y : Nat} : ∀ {m : Nat} {i : Nat}, a6u S y m = i → i < m ∧ (y : Int) - i ≤ S i ∧ ∀ k, i < k → k < m → ¬ (y : Int) - k ≤ S k := by
 intro m
 induction m with
 | zero => intro i h; simp [a6u] at h
 | succ m ih =>
  intro i h;rw [a6u] at h;split at h
  ·rename_i hc;have : m = i := by omega
   subst this;exact ⟨by omega, hc, fun k h1 h2 => by omega⟩
  ·rename_i hc;obtain ⟨a, b, c⟩ := ih h;refine ⟨by omega, b, fun k h1 h2 => ?_⟩;by_cases e : k = m
   ·subst e; exact hc
   ·exact c k h1 (by omega)
theorem Zn (S : Nat → Int) (y m : Nat) : a6u S y m = -1 ∨ ∃ i : Nat, a6u S y m = i := by
 induction m with
 | zero => exact .inl rfl
 | succ m ih =>
  rw [a6u];split
  ·exact .inr ⟨m, rfl⟩
  ·exact ih
theorem a1t {S : Nat → Int} {y : Nat} : ∀ {m : Nat}, a6u S y m = -1 → ∀ k, k < m → ¬ (y : Int) - k ≤ S k := by
 intro m
 induction m with
 | zero => intro _ k hk; omega
 | succ m ih =>
  intro h k hk;rw [a6u] at h;split at h
  ·omega
  ·rename_i hc;by_cases e : k = m
   ·subst e; exact hc
   ·exact ih h k (by omega)
theorem c2n {S : Nat → Int} {n y : Nat} (hall : S 0 = (n : Int) - 1) (hy0 : 0 < y) (hy : y < n) (hok : ∀ j, j < y → Ok S n j) : ∃ j : Nat, c15 S y = j ∧ j < y ∧ y ∈ B7 S j ∧ 0 ≤ S y ∧ y + S y ≤ j + S j := by
 have hex : ∃ j : Nat, c15 S y = j := by
  rcases Zn S y y with h | h
  ·have := a1t h 0 hy0;omega
  ·exact h
 obtain ⟨j, hj⟩ := hex;obtain ⟨a, b, c⟩ := a1s hj;have ok := hok j a;have hk := Hh ok;have hl := ok.low;obtain ⟨x, hx, hx1, hx2⟩ := Lu (Nat.le_refl _) hk y (by omega) (by omega);have hm := P9 (Nat.le_refl _) hk x hx;by_cases e : x = y
 ·subst e;exact ⟨j, hj, a, hx, hm.2.2.1, by omega⟩
 ·exact absurd (by omega) (c x (by omega) (by omega))
theorem a13 {S : Nat → Int} {n y : Nat} (hall : S 0 = (n : Int) - 1) (hy : y < n) (hok : ∀ j, j < y → Ok S n j) : 0 ≤ S y ∧ y + S y ≤ (n : Int) - 1 := by
 by_cases h0 : 0 < y
 ·obtain ⟨j, _, h1, _, h2, h3⟩ := c2n hall h0 hy hok;have := (hok j h1).high;exact ⟨h2, by omega⟩
 ·obtain rfl : y = 0 := by omega
  omega
theorem Right.kid_lt {S : Nat → Int} {n : Nat} (h : Right S n) {i y : Nat} (hi : i < n) (hm : y ∈ B7 S i) : i < y ∧ y < n := by
 have hk := Hh (h.ok i hi);have hr := P9 (Nat.le_refl _) hk y hm;have := (h.ok i hi).high;have := (h.ok i hi).low;omega
def Zj (S : Nat → Int) (n k : Nat) : Prop := 0 ≤ S k ∧ k + S k ≤ (n : Int) - 1 ∧ ∀ j : Nat, k ≤ j → (j : Int) ≤ k + S k → Ok S n j
theorem a62 {S : Nat → Int} {n k : Nat} (h1 : 0 ≤ S k) (h2 : k + S k ≤ (n : Int) - 1) {l : List Nat} (hk : Da S (k + 1 + (S k).toNat) (k + 1) = some l) (hw : ∀ x, x ∈ l → Zj S n x) : Zj S n k := by
 refine ⟨h1, h2, fun j a b => ?_⟩;by_cases e : j = k
 ·subst e; exact ⟨h1, h2, by rw [hk]; rfl⟩
 ·obtain ⟨x, hx, hx1, hx2⟩ := Lu (Nat.le_refl _) hk j (by omega) (by omega);exact (hw x hx).2.2 j hx1 hx2
def c0u (S : Nat → Int) (n at_ k : Nat) : Prop := ∃ l : List Nat, (∀ x, x ∈ l → Zj S n x) ∧ at_ + 1 ≤ k ∧ Da S (at_ + 1 + (S at_).toNat) (at_ + 1) = (Da S (at_ + 1 + (S at_).toNat) k).map (l ++ ·)
theorem c0u.start (S : Nat → Int) (n at_ : Nat) : c0u S n at_ (at_ + 1) := ⟨[], by simp, Nat.le_refl _, by simp⟩
theorem c0u.done {S : Nat → Int} {n at_ k : Nat} (h : c0u S n at_ k) (h1 : 0 ≤ S at_) (h2 : at_ + S at_ ≤ (n : Int) - 1) (hk : k = at_ + 1 + (S at_).toNat) : Zj S n at_ := by
 obtain ⟨l, h3, h4, h5⟩ := h;rw [B0 (k := k) (by omega)] at h5;exact a62 h1 h2 (l := l) (by simpa using h5) h3
end
section
open Go.RowKit
def Mw (w : World) (a : Option Addr) (ks : List Nat) : Prop := ∀ i, i < ks.length → ∃ g o, a = some ⟨g, o, none⟩ ∧ w.cell? ⟨g, o + i, none⟩ = some (.int .u8 (ks.getD i 0 : Nat)) ∧ ks.getD i 0 < 256
theorem Mw.carry {w w' : World} {a : Option Addr} {ks : List Nat} (h : Mw w a ks) (hb : Below w.heap.size w w') : Mw w' a ks := fun i hi => by
 obtain ⟨g, o, h1, h2, h3⟩ := h i hi;exact ⟨g, o, h1, Ac hb h2, h3⟩
def KT (w : World) (v : Value) (p : Nat → Bool) : Prop := ∃ f caps, v = .func (.func f) #[] caps ∧ (∀ args w, (callFunc f args).run prog w = .ok (.enter f args) w) ∧
 ∀ w', Below w.heap.size w w' → ∀ c : Nat, c < 256 → ∀ q, p c = q → Calls prog f (#[.int .u8 (c : Nat)] ++ caps) w' fun e w'' => e = .returned (.bool q) ∧ w' = w''
theorem KT.carry {w w' : World} {v : Value} {p : Nat → Bool} (h : KT w v p) (hb : Below w.heap.size w w') : KT w' v p := by
 obtain ⟨f, caps, h1, h2, h3⟩ := h;exact ⟨f, caps, h1, h2, fun w2 h => h3 w2 (Ab hb h)⟩
def RT (w : World) (v : Value) (p : List Nat → Bool) : Prop := ∃ f caps, v = .func (.func f) #[] caps ∧ (∀ args w, (callFunc f args).run prog w = .ok (.enter f args) w) ∧
 ∀ w', Below w.heap.size w w' → ∀ (g o n cap : Nat) (ks : List Nat), ks.length = n → n ≤ cap → cap ≤ 1000000 → Mw w' (some ⟨g, o, none⟩) ks → ∀ q, p ks = q → Calls prog f (#[.slice (some ⟨g, o, none⟩) n cap] ++ caps) w' fun e w'' => e = .returned (.bool q) ∧ Below w'.heap.size w' w''
theorem RT.carry {w w' : World} {v : Value} {p : List Nat → Bool} (h : RT w v p) (hb : Below w.heap.size w w') : RT w' v p := by
 obtain ⟨f, caps, h1, h2, h3⟩ := h;exact ⟨f, caps, h1, h2, fun w2 h => h3 w2 (Ab hb h)⟩
def Cq (k : Nat) : Bool := decide (7 ≤ k ∧ k ≤ 13)
def Ce (k : Nat) : Bool := decide (15 ≤ k ∧ k ≤ 20)
def Gm (k : Nat) : Bool := decide (14 ≤ k ∧ k ≤ 20)
def Ah (k : Nat) : Bool := decide (21 ≤ k ∧ k ≤ 32)
theorem Pm (c : Nat) (hc : c < 256) (w : World) (q : Bool) (hq : Cq c = q) : Calls prog 78 #[.int .u8 (c : Nat)] w fun e w' => e = .returned (.bool q) ∧ w = w' := by
 subst hq;by_cases a1 : 7 ≤ c
 ·by_cases a2 : c ≤ 13
  ·rw [show Cq c = true by simp [Cq, a1, a2]];have b1 : (7 : Int) ≤ c := by omega
   have b2 : (c : Int) ≤ 13 := by omega
   go_enter func78, ntmps78;go_wp2;go_ret;exact ⟨rfl, rfl⟩
  ·rw [show Cq c = false by simp [Cq, a2]];have b1 : (7 : Int) ≤ c := by omega
   have b2 : decide ((c : Int) ≤ 13) = false := by simp; omega
   go_enter func78, ntmps78;go_wp2;go_ret;exact ⟨rfl, rfl⟩
 ·rw [show Cq c = false by simp [Cq, a1]];have b1 : ¬ (7 : Int) ≤ c := by omega
  go_enter func78, ntmps78;go_wp2;go_ret;exact ⟨rfl, rfl⟩
theorem N5 (c : Nat) (hc : c < 256) (w : World) (q : Bool) (hq : Ah c = q) : Calls prog 79 #[.int .u8 (c : Nat)] w fun e w' => e = .returned (.bool q) ∧ w = w' := by
 subst hq;by_cases a1 : 21 ≤ c
 ·by_cases a2 : c ≤ 32
  ·rw [show Ah c = true by simp [Ah, a1, a2]];have b1 : (21 : Int) ≤ c := by omega
   have b2 : (c : Int) ≤ 32 := by omega
   go_enter func79, ntmps79;go_wp2;go_ret;exact ⟨rfl, rfl⟩
  ·rw [show Ah c = false by simp [Ah, a2]];have b1 : (21 : Int) ≤ c := by omega
   have b2 : decide ((c : Int) ≤ 32) = false := by simp; omega
   go_enter func79, ntmps79;go_wp2;go_ret;exact ⟨rfl, rfl⟩
 ·rw [show Ah c = false by simp [Ah, a1]];have b1 : ¬ (21 : Int) ≤ c := by omega
  go_enter func79, ntmps79;go_wp2;go_ret;exact ⟨rfl, rfl⟩
theorem Rl (c : Nat) (hc : c < 256) (w : World) (q : Bool) (hq : Ce c = q) : Calls prog 75 #[.int .u8 (c : Nat)] w fun e w' => e = .returned (.bool q) ∧ w = w' := by
 subst hq;by_cases a1 : 15 ≤ c
 ·by_cases a2 : c ≤ 20
  ·rw [show Ce c = true by simp [Ce, a1, a2]];have b1 : (14 : Int) < c := by omega
   have b2 : (c : Int) ≤ 20 := by omega
   go_enter func75, ntmps75;go_wp2;go_ret;exact ⟨rfl, rfl⟩
  ·rw [show Ce c = false by simp [Ce, a2]];have b1 : (14 : Int) < c := by omega
   have b2 : decide ((c : Int) ≤ 20) = false := by simp; omega
   go_enter func75, ntmps75;go_wp2;go_ret;exact ⟨rfl, rfl⟩
 ·rw [show Ce c = false by simp [Ce, a1]];have b1 : ¬ (14 : Int) < c := by omega
  go_enter func75, ntmps75;go_wp2;go_ret;exact ⟨rfl, rfl⟩
theorem Ur (c : Nat) (hc : c < 256) (w : World) (q : Bool) (hq : Gm c = q) : Calls prog 77 #[.int .u8 (c : Nat)] w fun e w' => e = .returned (.bool q) ∧ w = w' := by
 subst hq;have HT := zz (Rl c hc w);by_cases a1 : c = 14
 ·rw [show Gm c = true by simp [Gm, a1]];have b1 : ((c : Int) == 14) = true := by rw [a1]; rfl
  clear a1;go_enter func77, ntmps77;go_wp2_with fail;go_ret;exact ⟨rfl, rfl⟩
 ·have e : Ce c = Gm c := by unfold Ce Gm; rw [decide_eq_decide]; omega
  have b1 : ((c : Int) == 14) = false := by rw [beq_eq_false_iff_ne]; omega
  clear a1;replace e := zz e;generalize Gm c = q at e;go_enter func77, ntmps77;go_wp2_with (go_at_call 75; refine (HT.out q e.out).mono ?_; rintro e w' ⟨rfl, rfl⟩);go_ret;exact ⟨rfl, rfl⟩
theorem Of {f : FuncId} {p : Nat → Bool} (eg : ∀ args w, (callFunc f args).run prog w = .ok (.enter f args) w) (h : ∀ c : Nat, c < 256 → ∀ w q, p c = q → Calls prog f #[.int .u8 (c : Nat)] w fun e w' => e = .returned (.bool q) ∧ w = w') (w : World) : KT w (.func (.func f) #[] #[]) p :=
 ⟨f, #[], rfl, eg, fun w' _ c hc q hq => h c hc w' q hq⟩
theorem b25 (w : World) : KT w (.func (.func 78) #[] #[]) Cq := Of (by intro args w; simp [go_sem]) Pm w
theorem Hk (w : World) : KT w (.func (.func 79) #[] #[]) Ah := Of (by intro args w; simp [go_sem]) N5 w
theorem Xm (w : World) : KT w (.func (.func 75) #[] #[]) Ce := Of (by intro args w; simp [go_sem]) Rl w
theorem b7l (w : World) : KT w (.func (.func 77) #[] #[]) Gm := Of (by intro args w; simp [go_sem]) Ur w
theorem a4q (a : Option Addr) (n cap : Nat) (ks : List Nat) (c : Nat) (w : World) (hn : Hid (ks.length = n)) (hl : n ≤ 1000000) (hr : Hid (Mw w a ks)) (q : Bool) (hq : Hid (ks.contains c = q)) :
  Calls prog 150 #[.slice a n cap, .int .u8 (c : Nat)] w fun e w' => (∃ z : Int, e = .returned (.int .i64 z) ∧ decide (0 ≤ z) = q) ∧ w = w' := by
 go_enter func150, ntmps150;go_wp2_with fail
 go_loop [8] (fun j => ∃ k : Nat, k ≤ n ∧ j = .int .i64 k ∧ ∀ k', k' < k → ks.getD k' 0 ≠ c) (fun j => n - (intOf j).toNat)
 case atStart => exact ⟨0, Nat.zero_le _, rfl, fun k' h => absurd h (by omega)⟩
 case round =>
  obtain ⟨k, hk, rfl, hne⟩ := hrel;replace hne := zz hne;by_cases hlt : k < n
  ·obtain ⟨g, o, rfl, hc, hk2⟩ := hr.out k (by rw [hn.out]; exact hlt);obtain ⟨d, hd⟩ : ∃ d, ks.getD k 0 = d := ⟨_, rfl⟩;rw [hd] at hc hk2;by_cases hcd : c = d
   ·have hq' : q = true := by
     rw [← hq.out, List.contains_iff_mem, hcd, ← hd];have hkl : k < ks.length := by rw [hn.out]; exact hlt
     simp [List.getD, hkl]
    subst hq';have e1 : ((c : Int) == (d : Int)) = true := by rw [hcd]; simp
    clear hcd hd;go_wp2_with fail;go_ret;exact ⟨⟨_, rfl, by simp⟩, rfl⟩
   ·have e1 : ((c : Int) == (d : Int)) = false := by rw [beq_eq_false_iff_ne]; omega
    have HN := zz (show ∀ k', k' < k + 1 → ks.getD k' 0 ≠ c from fun k' h => by
     by_cases e : k' = k
     ·subst e; rw [hd]; exact fun e => hcd e.symm
     ·exact hne.out k' (by omega))
    clear hcd hd;go_wp2_with fail
    go_round
    case rel => exact ⟨k + 1, hlt, by go_num, HN.out⟩
    case measure => simp [intOf]; omega
  ·have hq' : q = false := by
    rw [← hq.out, Bool.eq_false_iff];intro h;rw [List.contains_iff_mem] at h;obtain ⟨i, hi, he⟩ := List.getElem_of_mem h;exact hne.out i (by rw [hn.out] at hi; omega) (by simp [List.getD, hi, he])
   subst hq';go_wp2_with fail;go_ret;exact ⟨⟨_, rfl, by decide⟩, rfl⟩
theorem U3 (a : Option Addr) (n cap : Nat) (ks : List Nat) (c : Nat) (w : World) (hn : ks.length = n) (hl : n ≤ 1000000) (hr : Mw w a ks) (q : Bool) (hq : ks.contains c = q) :
  Calls prog 109 #[.slice a n cap, .int .u8 (c : Nat)] w fun e w' => e = .returned (.bool q) ∧ w = w' := by
 have H := zz (a4q a n cap ks c w (zz hn) hl (zz hr) q (zz hq));clear hn hr hq;go_enter func109, ntmps109;go_wp2_with fail;refine H.out.mono ?_;rintro e w' ⟨⟨z, rfl, hz⟩, rfl⟩;go_wp2_with fail;go_ret;exact ⟨rfl, rfl⟩
theorem b4a (b : Nat) (a : Option Addr) (n cap : Nat) (ks : List Nat) (c : Nat) (w : World) (hn : ks.length = n) (hl : n ≤ 1000000) (hr : Mw w a ks) (hb : w.cell? ⟨b, 0, none⟩ = some (.slice a n cap)) (q : Bool) (hq : ks.contains c = q) :
  Calls prog 108 #[.int .u8 (c : Nat), .pointer (some ⟨b, 0, none⟩)] w fun e w' => e = .returned (.bool q) ∧ w = w' := by
 have H := zz (U3 a n cap ks c w hn hl hr q hq);clear hn hr hq;go_enter func108, ntmps108;go_wp2_with (go_at_call 109; refine H.out.mono ?_; rintro e w' ⟨rfl, rfl⟩);go_ret;exact ⟨rfl, rfl⟩
theorem Cw (a : Option Addr) (n cap : Nat) (ks : List Nat) (w : World) (hn : ks.length = n) (hl : n ≤ 1000000) (hr : Mw w a ks) :
  Calls prog 72 #[.slice a n cap] w fun e w' => ∃ v, e = .returned v ∧ KT w' v ks.contains ∧ Below w.heap.size w w' := by
 have HK : Hid (KT (w.alloc (.cells #[.slice a n cap] 58)) (.func (.func 108) #[] #[.pointer (some ⟨w.heap.size, 0, none⟩)]) ks.contains) := zz
  ⟨108, _, rfl, by intro args w; simp [go_sem], fun w' hb c _ q hq => b4a w.heap.size a n cap ks c w' hn hl ((hr.carry (Aa _ _)).carry hb) (Ac hb (by simp [go_sem])) q hq⟩
 clear hn hr;go_enter func72, ntmps72;go_wp2_with fail;go_ret;exact ⟨_, rfl, HK.out, Aa _ _⟩
theorem a5g (b : Nat) (v : Value) (p : Nat → Bool) (w : World) (hk : Hid (KT w v p)) (hb : w.cell? ⟨b, 0, none⟩ = some v) (a : Option Addr) (n cap : Nat) (ks : List Nat) (hn : Hid (ks.length = n)) (hl : n ≤ 1000000) (hr : Hid (Mw w a ks)) (q : Bool) (hq : Hid (ks.all p = q)) :
  Calls prog 110 #[.slice a n cap, .pointer (some ⟨b, 0, none⟩)] w fun e w' => e = .returned (.bool q) ∧ w = w' := by
 obtain ⟨f, caps, rfl, eg, hc⟩ := hk.out;clear hk;replace hc := zz hc;go_enter func110, ntmps110;go_wp2_with fail
 go_loop [8] (fun j => ∃ k : Nat, k ≤ n ∧ j = .int .i64 k ∧ ∀ k', k' < k → p (ks.getD k' 0) = true) (fun j => n - (intOf j).toNat)
 case atStart => exact ⟨0, Nat.zero_le _, rfl, fun k' h => absurd h (by omega)⟩
 case round =>
  obtain ⟨k, hk, rfl, hall⟩ := hrel;replace hall := zz hall;by_cases hlt : k < n
  ·obtain ⟨g, o, rfl, hcell, hk2⟩ := hr.out k (by rw [hn.out]; exact hlt);have hkl : k < ks.length := by rw [hn.out]; exact hlt
   obtain ⟨d, hd⟩ : ∃ d, ks.getD k 0 = d := ⟨_, rfl⟩;rw [hd] at hcell hk2;have HC := zz (hc.out w (Below.refl _ _) d hk2)
   cases hp : p d with
   | true =>
    have HN := zz (show ∀ k', k' < k + 1 → p (ks.getD k' 0) = true from fun k' h => by
     by_cases e : k' = k
     ·subst e; rw [hd]; exact hp
     ·exact hall.out k' (by omega))
    replace hp := zz hp;clear hd;go_wp2_with fail;refine (HC.out true hp.out).mono ?_;rintro e w' ⟨rfl, rfl⟩;go_wp2_with fail
    go_round
    case rel => exact ⟨k + 1, hlt, by go_num, HN.out⟩
    case measure => simp [intOf]; omega
   | false =>
    have hq' : q = false := by
     rw [← hq.out, List.all_eq_false];exact ⟨d, by rw [← hd]; simp [List.getD, hkl], by simp [hp]⟩
    subst hq';replace hp := zz hp;clear hd;go_wp2_with fail;refine (HC.out false hp.out).mono ?_;rintro e w' ⟨rfl, rfl⟩;go_wp2_with fail;go_ret;exact ⟨rfl, rfl⟩
  ·have hq' : q = true := by
    rw [← hq.out, List.all_eq_true];intro c hc;obtain ⟨i, hi, rfl⟩ := List.getElem_of_mem hc;have := hall.out i (by rw [hn.out] at hi; omega);simpa [List.getD, hi] using this
   subst hq';go_wp2_with fail;go_ret;exact ⟨rfl, rfl⟩
theorem Jk (v : Value) (p : Nat → Bool) (w : World) (hk : KT w v p) :
  Calls prog 73 #[v] w fun e w' => ∃ v', e = .returned v' ∧ RT w' v' (fun ks => ks.all p) ∧ Below w.heap.size w w' := by
 have HK : Hid (RT (w.alloc (.cells #[v] 96)) (.func (.func 110) #[] #[.pointer (some ⟨w.heap.size, 0, none⟩)]) (fun ks => ks.all p)) := zz
  ⟨110, _, rfl, by intro args w; simp [go_sem], fun w' hb g o n cap ks h1 h2 h3 h4 q hq => Iv (a5g w.heap.size v p w' (zz ((hk.carry (Aa _ _)).carry hb)) (Ac hb (by simp [go_sem])) _ n cap ks (zz h1) (by omega) (zz h4) q (zz hq))⟩
 obtain ⟨f, caps, rfl, _⟩ := hk;go_enter func73, ntmps73;go_wp2_with fail;go_ret;exact ⟨_, rfl, HK.out, Aa _ _⟩
end
end Go.Proofs.YtoaplbljflhheaaGreat
