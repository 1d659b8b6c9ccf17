/-
 Contracts and plain facts on the way to PrettyAgain. Conditions: as each says.
-/
import Derived.Test.YtoaplbljflhheaaGreatAbz
import Derived.Test.YtoaplbljflhheaaGreatAar
import Derived.Test.YtoaplbljflhheaaGreatAbl
set_option maxHeartbeats 40000000
set_option maxRecDepth 100000
set_option linter.unusedVariables false
set_option linter.unusedSimpArgs false
namespace Go.Proofs.YtoaplbljflhheaaGreat
open _root_.Go.Proofs.Tryz
section
def rgK (k : Nat) : Bool := decide (2 ≤ k ∧ k ≤ 32)
theorem Ft : ∀ {ps : List (Nat → Bool)} {ks : List Nat}, Ag ps ks = true → (∀ p ∈ ps, ∀ k, p k = true → rgK k = true) → ks.all rgK = true := fun {ps ks} h hp => by
 unfold Ag at h;rw [Bool.and_eq_true, decide_eq_true_eq, List.all_eq_true] at h;obtain ⟨hl, h⟩ := h;rw [List.all_eq_true];intro k hk;obtain ⟨n, hn, rfl⟩ := List.getElem_of_mem hk;have := h n (by rw [List.mem_range]; omega);have e1 : ks.getD n 0 = ks[n] := by simp [List.getD, List.getElem?_eq_getElem hn]
 have e2 : ps.getD n (fun _ => false) = ps[n] := by simp [List.getD, List.getElem?_eq_getElem (show n < ps.length by omega)]
 rw [e1, e2] at this;exact hp _ (List.getElem_mem _) _ this
theorem Nt {k : Nat} (h : Ah k = true) : rgK k = true := by
 rw [Ah, decide_eq_true_eq] at h;rw [rgK, decide_eq_true_eq]; omega
theorem b1h {k : Nat} (h : Ce k = true) : rgK k = true := by
 rw [Ce, decide_eq_true_eq] at h;rw [rgK, decide_eq_true_eq]; omega
theorem b7j {k : Nat} (h : Gm k = true) : rgK k = true := by
 rw [Gm, decide_eq_true_eq] at h;rw [rgK, decide_eq_true_eq]; omega
theorem b7i {k : Nat} (h : Cq k = true) : rgK k = true := by
 rw [Cq, decide_eq_true_eq] at h;rw [rgK, decide_eq_true_eq]; omega
theorem J2 {l : List Nat} (hl : l.all rgK = true) {k : Nat} (h : l.contains k = true) : rgK k = true := by
 rw [List.all_eq_true] at hl;exact hl k (by simpa using h)
theorem Tw {P : Nat → Bool} (hP : ∀ k, P k = true → rgK k = true) {ks : List Nat} (h : ks.all P = true) : ks.all rgK = true := by
 rw [List.all_eq_true] at h ⊢;exact fun k hk => hP k (h k hk)
theorem b1i {k : Nat} {num : Int} {ks : List Nat} (h : Il k num ks = true) : ks.all rgK = true := by
 have h0 : Ag [] ks = true → ks.all rgK = true := fun h => Ft h (by intro p hp; cases hp)
 have ht : Ag [Ce] ks = true → ks.all rgK = true := fun h => Ft h (by intro p hp k; simp only [List.mem_cons, List.not_mem_nil, or_false] at hp; rcases hp with rfl; exact b1h)
 have h1 : Ag [Ah] ks = true → ks.all rgK = true := fun h => Ft h (by intro p hp k; simp only [List.mem_cons, List.not_mem_nil, or_false] at hp; rcases hp with rfl; exact Nt)
 have h2 : Ag [Ah, Ah] ks = true → ks.all rgK = true := fun h => Ft h (by intro p hp k; simp only [List.mem_cons, List.not_mem_nil, or_false] at hp; rcases hp with rfl | rfl <;> exact Nt)
 have h6 : Ag [Ah, [6].contains] ks = true → ks.all rgK = true := fun h => Ft h (by intro p hp k; simp only [List.mem_cons, List.not_mem_nil, or_false] at hp; rcases hp with rfl | rfl; exact Nt; exact J2 (by decide))
 unfold Il at h;split at h
 ·exact Tw (fun k => J2 (by decide)) h
 ·exact Tw (fun k => J2 (by decide)) h
 ·exact ht h
 ·exact ht h
 ·exact ht h
 ·rw [Jd, Bool.and_eq_true, Bool.and_eq_true] at h;have a := Tw (fun k => J2 (l := [5]) (by decide)) h.2.1;have b := Ft h.2.2 (by intro p hp k; simp only [List.mem_cons, List.not_mem_nil, or_false] at hp; rcases hp with rfl | rfl; exact b7j; exact J2 (by decide));rw [← List.take_append_drop num.toNat ks, List.all_append, a, b]; rfl
 ·exact Tw (fun k => b7i) h
 ·exact Ft h (by intro p hp k; simp only [List.mem_cons, List.not_mem_nil, or_false] at hp; rcases hp with rfl | rfl; exact b1h; exact Nt)
 ·exact Ft h (by intro p hp k; simp only [List.mem_cons, List.not_mem_nil, or_false] at hp; rcases hp with rfl | rfl; exact J2 (by decide); exact Nt)
 ·rw [Bool.or_eq_true] at h;rcases h with h | h
  ·exact h6 h
  ·exact Ft h (by intro p hp k; simp only [List.mem_cons, List.not_mem_nil, or_false] at hp; rcases hp with rfl | rfl | rfl; exact Nt; exact J2 (by decide); exact J2 (by decide))
 ·exact h6 h
 ·rw [Bool.or_eq_true] at h;rcases h with h | h
  ·exact h0 h
  ·exact h1 h
 ·exact Ft h (by intro p hp k; simp only [List.mem_cons, List.not_mem_nil, or_false] at hp; rcases hp with rfl; exact J2 (by decide))
 ·exact Tw (fun k => Nt) h
 ·exact h1 h
 ·exact h1 h
 ·exact h1 h
 ·exact h2 h
 ·exact h2 h
 ·rw [Bool.or_eq_true] at h;rcases h with h | h
  ·exact Ft h (by intro p hp k; simp only [List.mem_cons, List.not_mem_nil, or_false] at hp; rcases hp with rfl; exact J2 (by decide))
  ·exact Ft h (by intro p hp k; simp only [List.mem_cons, List.not_mem_nil, or_false] at hp; rcases hp with rfl | rfl; exact J2 (by decide); exact Nt)
 ·exact h0 h
theorem b21 {F : Fo} (hg : Am F = true) (hr : (Ak F).all rgK = true) : ∀ x ∈ D6 F, 2 ≤ x.1.kind ∧ x.1.kind ≤ 32 := by
 induction F with
 | nil => intro x hx; cases hx
 | cons i k r ihk ihr =>
  rw [Am, Bool.and_eq_true, Bool.and_eq_true] at hg;rw [Ak, List.all_cons, Bool.and_eq_true] at hr;intro x hx;simp only [D6, List.mem_cons, List.mem_append] at hx;rcases hx with rfl | hx | hx
  ·have := hr.1;rw [rgK, decide_eq_true_eq] at this;exact this
  ·exact ihk hg.1.2 (b1i (Bn hg.1.1).2.2) x hx
  ·exact ihr hg.2 hr.2 x hx
theorem b0p (F : Fo) : Ar (Ar F) = Ar F := by
 induction F with
 | nil => rfl
 | cons i k r ihk ihr => simp only [Ar, ihk, ihr]; rfl
def b9n : Tok := ⟨8, 0, 0, 0, []⟩
theorem a3f {i : Inf} {k : Fo} (h : Gp i k) (hn : Rc (.cons i k .nil)) : ∃ U, Gw (Hs 0 i (D8 0 k)) 1 1 = .ok U ∧ ((DP i k ≤ 40 ∧ ∃ G q, Ha (Fl U.length) U = .ok G q ∧ Ar G = Ar (.cons i k .nil)) ∨ (¬ DP i k ≤ 40 ∧ ∃ l c, Ha (Fl U.length) U = .bad 6 l c)) := by
 obtain ⟨hg, hG, hi⟩ := h;obtain ⟨p1, p2, p3⟩ := Bn hg;have hkr : (Ak k).all rgK = true := b1i p3;have hks := b21 hG hkr;have hl := a4d 0 hG (fun x hx => hn x (by simp [D6, hx])) hks
 have h14 : a6p (D8 0 k) := by
  rw [hi] at p3;have p3 : (Ak k).all [2, 4].contains = true := p3;rw [← O8 0 k] at p3;exact a6i (P := [2, 4].contains) (fun k => c14 (by decide)) p3
 have hs : Lx false (Hs 0 i (D8 0 k)) (TK i k) := by
  obtain ⟨kd, ln, cl, num, tx⟩ := i;simp only at hi;subst hi;exact a4b hl h14
 obtain ⟨l', c', T', hT, hk⟩ := hs [] 1 1 (fun h => by cases h) (fun c hc => by cases hc);rw [List.append_nil, L0] at hk;refine ⟨T' ++ [⟨8, l', c', 0, []⟩], by rw [hk]; rfl, ?_⟩;have hT2 : (TK i k).map tkB = TK i k := by rw [← hT, List.map_map]; rfl
 have hsm : SmT (T' ++ [⟨8, l', c', 0, []⟩]) (TK i k ++ [b9n]) := by
  unfold SmT;rw [List.map_append, List.map_append, hT, hT2];rfl
 have hlen : (T' ++ [(⟨8, l', c', 0, []⟩ : Tok)]).length = (TK i k).length + 1 := by
  rw [List.length_append, ← hT, List.length_map]; rfl
 rw [hlen];have hA := b9a hg hG hi (Nat.lt_succ_self (TK i k).length) [b9n] rfl
 have hbare : Ar (.cons ⟨1, 1, 1, 0, []⟩ (Ar k) .nil) = Ar (.cons i k .nil) := by
  obtain ⟨kd, ln, cl, num, tx⟩ := i;simp only at hi p1 p2;subst hi;obtain rfl : tx = [] := by simpa [Dm] using p1
  obtain rfl : num = 0 := by simpa [Cr] using p2
  show Fo.cons _ (Ar (Ar k)) .nil = _;rw [b0p]; rfl
 have hw := a3w (a8o ((TK i k).length + 1)) hsm;rcases hA with ⟨hb, hA⟩ | ⟨hb, l, c, hA⟩
 ·have e : Ha (Fl ((TK i k).length + 1)) (TK i k ++ [b9n]) = .ok (.cons ⟨1, 1, 1, 0, []⟩ (Ar k) .nil) [b9n] := by
   unfold Ha;rw [hA]; rfl
  rw [e] at hw;refine .inl ⟨hb, ?_⟩
  cases hx : Ha (Fl ((TK i k).length + 1)) (T' ++ [⟨8, l', c', 0, []⟩]) with
  | ok G q =>
   rw [hx] at hw
   exact ⟨G, q, rfl, by rw [hw.1]; exact hbare⟩
  | bad a b c => rw [hx] at hw; exact hw.elim
 ·have e : Ha (Fl ((TK i k).length + 1)) (TK i k ++ [b9n]) = .bad 6 l c := by
   unfold Ha;rw [hA]; rfl
  rw [e] at hw;refine .inr ⟨hb, ?_⟩
  cases hx : Ha (Fl ((TK i k).length + 1)) (T' ++ [⟨8, l', c', 0, []⟩]) with
  | ok G q => rw [hx] at hw; exact hw.elim
  | bad a b c =>
   rw [hx] at hw;have hw : a = 6 := hw;subst hw;exact ⟨b, c, rfl⟩
theorem Xk {p : Pt} {T r : List Tok} {F : Fo} (h : Ha p T = .ok F r) : p 0 T = .ok F r := by
 obtain ⟨F1, r1, e1, e2⟩ := Ad h;split at e2
 ·cases e2; exact e1
 ·cases e2
end
section
theorem Vz (s : List UInt8) : (∃ c l k, c ≠ 0 ∧ Hq Fl s = ([], (c, l, k))) ∨ (∃ T F r, s.length ≤ 65536 ∧ Gw s 1 1 = .ok T ∧ Fl T.length 0 T = .ok F r ∧ Hq Fl s = (F.pre, (0, 0, 0))) := by
 unfold Hq;by_cases hl : 65536 < s.length
 ·rw [if_pos hl]; exact .inl ⟨3, 0, 0, by decide, rfl⟩
 ·rw [if_neg hl]
  cases ht : Gw s 1 1 with
  | error f =>
   obtain ⟨c, l, k⟩ := f
   exact .inl ⟨c, l, k, (O1 s 1 1).2 _ ht, rfl⟩
  | ok T =>
   cases hw : Ha (Fl T.length) T with
   | ok F r => exact .inr ⟨T, F, r, by omega, rfl, Xk hw, by simp only [hw]⟩
   | bad c l k =>
    refine .inl ⟨c, l, k, ?_, by simp only [hw]⟩;rcases b4y (b4m T.length) T c l k hw with rfl | rfl <;> decide
structure FineP (L : List Nd) : Prop where
 pos : 0 < L.length
 len : L.length ≤ 4000
 wf : ∀ i, i < L.length → (nd L i).wf
 txs : (L.map fun x => x.text.size).sum ≤ 100000
 may : Wo L = true
theorem b4h {i : Inf} {k : Fo} (h : Gp i k) : Am (.cons i k .nil) = true := by
 show (Be i k && Am k && true) = true;rw [h.1, h.2.1]; rfl
theorem Yt {i : Inf} {k : Fo} (h : Gp i k) (hb : Bf 100000 (.cons i k .nil)) (hw : wF (.cons i k .nil) ≤ 60000) : FineP (Fo.cons i k .nil).pre := by
 have hc := b93 (.cons i k .nil);exact ⟨by rw [C7]; simp [Fo.cnt], by rw [C7]; omega, b6x hb (by omega), by have := b2r (.cons i k .nil); omega, a36 h.2.2 (b4h h)⟩
theorem c1k {i : Inf} (h : i.kind = 1) : Ej 0 i = 0 := by unfold Ej; rw [if_neg (by omega)]
theorem a6n {s : List UInt8} (hs : s.length ≤ 2000) : (∃ c l k, c ≠ 0 ∧ Hq Fl s = ([], (c, l, k))) ∨
  ∃ L S, Hq Fl s = (L, (0, 0, 0)) ∧ FineP L ∧ Fb L = S ∧
   ((65536 < S.length ∧ Hq Fl S = ([], (3, 0, 0))) ∨ ∃ M, Hq Fl S = (M, (0, 0, 0)) ∧ FineP M ∧ Fb M = S ∧ R3 L M = true) := by
 rcases Vz s with h | ⟨T, F, r, _, h1, e1, h3⟩
 ·exact .inl h
 ·right;have hbl := My (M := 100000) _ s 1 1 T (Nat.le_refl _) h1 (by omega) (by omega) (by omega);have hTl := ((O1 s 1 1).1 T h1).2;have hbf := (a56 T.length hbl (by omega) (by omega) e1).1;obtain ⟨hwl, hwt⟩ := Mx _ s 1 1 T (Nat.le_refl _) h1;obtain ⟨i, k, rfl, hg, hD, hW⟩ := b12 T.length hwl e1;have hfine := Yt hg hbf (by omega);have hd := c1k hg.2.2;refine ⟨_, Hs 0 i (D8 0 k), h3, hfine, T3 hd _ rfl, ?_⟩;by_cases hlong : 65536 < (Hs 0 i (D8 0 k)).length
  ·exact .inl ⟨hlong, by unfold Hq; rw [if_pos hlong]⟩
  ·right;obtain ⟨U, u1, u2⟩ := a3f hg (b3y hbf);rcases u2 with ⟨_, G, q, u2, u3⟩ | ⟨hb, _⟩
   ·have e3 := Xk u2;have hl2 := My (M := 100000) _ _ 1 1 U (Nat.le_refl _) u1 (by omega) (by omega) (by omega);have hUl := ((O1 _ 1 1).1 U u1).2;have hbf2 := (a56 U.length hl2 (by omega) (by omega) e3).1;obtain ⟨hwl2, _⟩ := Mx _ _ 1 1 U (Nat.le_refl _) u1;obtain ⟨j, m, rfl, hg2, _, _⟩ := b12 U.length hwl2 e3;have hw2 : wF (.cons j m .nil) = wF (.cons i k .nil) := by rw [← a1n, u3, a1n]
    have hfine2 := Yt hg2 hbf2 (by omega);refine ⟨_, ?_, hfine2, T3 hd _ u3, ?_⟩
    ·unfold Hq;rw [if_neg (by omega), u1];simp only [u2]
    ·obtain ⟨q1, q2⟩ := a2k _ _ u3.symm;exact Tu q1 q2
   ·exact absurd hD hb
end
section
open Go.RowKit Go.Sort
def Zk (s : ByteArray) (L : List Nd) : Prop := ∀ w, Calls prog 19 #[.string s] w (a6w w (L, (0, 0, 0)))
def Tc (L : List Nd) (S : ByteArray) : Prop := ∀ w a n cap, L.length = n → a1b w a L → Calls prog 10 #[.slice a n cap] w fun e w' => e = .returned (.tuple #[.string S, .int .i64 0]) ∧ Below w.heap.size w w'
def b18 (L M : List Nd) : Prop := ∀ w a n cap a' n' cap', L.length = n → M.length = n' → a1b w a L → a1b w a' M → Calls prog 20 #[.slice a n cap, .slice a' n' cap'] w fun e w' => e = .returned (.bool true) ∧ Below w.heap.size w w'
theorem M5 {L : List Nd} (h : FineP L) {S : List UInt8} (e : Fb L = S) : Tc L (bs S) := fun w a n cap hn hr => by
 have := Wa (cap := cap) hn (by have := h.len; omega) (Oi hr h.wf) (X8 hr h.pos) h.txs h.may;rw [if_pos rfl, e] at this;exact this
theorem a2j {L M : List Nd} (h : FineP L) (h' : FineP M) (e : R3 L M = true) : b18 L M := fun w a n cap a' n' cap' hn hn' hr hr' =>
 a2n a n cap L a' n' cap' M w (zz hn) (zz hn') (by have := h.len; omega) (by have := h'.len; omega) (zz (Oi hr h.wf)) (zz (Oi hr' h'.wf)) true (zz e)
theorem a07 (s : ByteArray) (w : World) (hs : 2000 < s.size) (h2 : s.size ≤ maxLen) : Calls prog 6 #[.string s] w fun e w' => e = .returned (.bool true) ∧ Below w.heap.size w w' := by
 have HA := zz Ms;unfold maxLen at h2;go_enter func6, ntmps6;go_wp2_with fail;refine (HA.out _).mono ?_;rintro e w2 ⟨rfl, hb2⟩;replace hb2 := zz hb2;go_wp2_with fail;go_ret;exact ⟨rfl, hb2.out⟩
theorem a6m (s : ByteArray) (w : World) (hs : s.size ≤ 2000) (c : Int) (l k : Nat) (hc : c ≠ 0) (H : Hid (∀ w, Calls prog 19 #[.string s] w (a6w w ([], (c, l, k))))) : Calls prog 6 #[.string s] w fun e w' => e = .returned (.bool true) ∧ Below w.heap.size w w' := by
 have HA := zz Ms;go_enter func6, ntmps6;go_wp2_with fail;refine (H.out _).mono ?_;rintro e w1 ⟨a, n, cap, rfl, hn, hn2, hr, -, hb1⟩;replace hb1 := zz hb1;clear hr hn H;go_wp2_with fail;refine (HA.out _).mono ?_;rintro e w2 ⟨rfl, hb2⟩;replace hb2 := zz (Ab (Ab hb1.out (Aa _ _)) hb2);go_wp2_with fail;go_ret;exact ⟨rfl, hb2.out⟩
theorem a08 (s : ByteArray) (w : World) (hs : s.size ≤ 2000) (S : ByteArray) (hS : 65536 < S.size) (L : List Nd) (H1 : Hid (Zk s L)) (H2 : Hid (Tc L S)) (H3 : Hid (∀ w, Calls prog 19 #[.string S] w (a6w w ([], (3, 0, 0))))) : Calls prog 6 #[.string s] w fun e w' => e = .returned (.bool true) ∧ Below w.heap.size w w' := by
 have HA := zz Ms;go_enter func6, ntmps6;go_wp2_with fail;refine (H1.out _).mono ?_;rintro e w1 ⟨a, n, cap, rfl, hn, hn2, hr, -, hb1⟩;have HP := zz (fun w2 (h : Below w1.heap.size w1 w2) => H2.out w2 a n cap hn (hr.carry h));replace hb1 := zz hb1;clear hr hn H1 H2;go_wp2_with fail;refine (HP.out _ (Aa _ _)).mono ?_;rintro e w2 ⟨rfl, hb2⟩;have hc2 := zz (Ab (Aa _ _) hb2);clear hb2;go_wp2_with fail;refine (H3.out _).mono ?_;rintro e w3 ⟨a', n', cap', rfl, hn', hn2', hr', -, hb3⟩;have hc3 := zz (Ab hc2.out hb3);clear hr' hn' H3 hb3;go_wp2_with fail;refine (HA.out _).mono ?_;rintro e w6 ⟨rfl, hb6⟩;have hc6 := zz (Ab (Ab hb1.out (Ab hc3.out (Aa _ _))) hb6);clear hb6;go_wp2_with fail;go_ret;exact ⟨rfl, hc6.out⟩
theorem b08 (s : ByteArray) (w : World) (hs : s.size ≤ 2000) (S : ByteArray) (L M : List Nd) (H1 : Hid (Zk s L)) (H2 : Hid (Tc L S)) (H3 : Hid (Zk S M)) (H4 : Hid (Tc M S)) (H5 : Hid (b18 L M)) : Calls prog 6 #[.string s] w fun e w' => e = .returned (.bool true) ∧ Below w.heap.size w w' := by
 have HA := zz Ms;go_enter func6, ntmps6;go_wp2_with fail;refine (H1.out _).mono ?_;rintro e w1 ⟨a, n, cap, rfl, hn, hn2, hr, -, hb1⟩;have HP := zz (fun w2 (h : Below w1.heap.size w1 w2) => H2.out w2 a n cap hn (hr.carry h));have HS := zz (fun w2 (h : Below w1.heap.size w1 w2) a' n' cap' hn' hr' => H5.out w2 a n cap a' n' cap' hn hn' (hr.carry h) hr');replace hb1 := zz hb1;clear hr hn H1 H2 H5;go_wp2_with fail;refine (HP.out _ (Aa _ _)).mono ?_;rintro e w2 ⟨rfl, hb2⟩;have hc2 := zz (Ab (Aa _ _) hb2);clear hb2;go_wp2_with fail;refine (H3.out _).mono ?_;rintro e w3 ⟨a', n', cap', rfl, hn', hn2', hr', -, hb3⟩;have HQ := zz (fun w4 (h : Below w3.heap.size w3 w4) => H4.out w4 a' n' cap' hn' (hr'.carry h));have HT := zz (fun w4 (h : Below w1.heap.size w1 w4) (h' : Below w3.heap.size w3 w4) => HS.out w4 h a' n' cap' hn' (hr'.carry h'));have hc3 := zz (Ab hc2.out hb3);replace hb3 := zz hb3;clear hr' hn' H3 H4 HS;go_wp2_with fail;refine (HQ.out _ (Aa _ _)).mono ?_;rintro e w4 ⟨rfl, hb4⟩;have x0 : w4.cell? ⟨w3.heap.size, 0, none⟩ = some (.int .i64 0) := Ac hb4 (by first | simp [go_sem] | simp [World.cell?, World.alloc]);have hd4 := zz (Ab (Aa _ _) hb4);have hc4 := zz (Ab hc3.out hd4.out);clear hb4;go_wp2_with fail;refine (HT.out _ hc4.out hd4.out).mono ?_;rintro e w5 ⟨rfl, hb5⟩;have hc5 := zz (Ab (Ab hb1.out hc4.out) hb5);clear hb5;go_wp2_with fail;refine (HA.out _).mono ?_;rintro e w6 ⟨rfl, hb6⟩;have hc6 := zz (Ab hc5.out hb6);clear hb6;go_wp2_with fail;go_ret;exact ⟨rfl, hc6.out⟩
theorem N4 (s : ByteArray) (w : World) (h2 : s.size ≤ maxLen) : Calls prog 6 #[.string s] w fun e w' => e = .returned (.bool true) ∧ Below w.heap.size w w' := by
 by_cases hs : 2000 < s.size
 ·exact a07 s w hs h2
 ·have hl : s.data.toList.length ≤ 2000 := by show s.data.size ≤ 2000; exact Nat.le_of_not_lt hs
  rcases a6n hl with ⟨c, l, k, hc, h⟩ | ⟨L, S, r1, f1, p1, h⟩
  ·exact a6m s w (by omega) c l k hc (zz fun w => by have := Kn s w; rwa [h] at this)
  ·have e : (bs S).data.toList = S := rfl;have R1 : Hid (Zk s L) := zz fun w => by have := Kn s w; rwa [r1] at this
   rcases h with ⟨hS, r2⟩ | ⟨M, r2, f2, p2, sm⟩
   ·exact a08 s w (by omega) (bs S) (by show 65536 < (bs S).data.toList.length; exact hS) L R1 (zz (M5 f1 p1)) (zz fun w => by have := Kn (bs S) w; rwa [e, r2] at this)
   ·exact b08 s w (by omega) (bs S) L M R1 (zz (M5 f1 p1)) (zz fun w => by have := Kn (bs S) w; rwa [e, r2] at this) (zz (M5 f2 p2)) (zz (a2j f1 f2 sm))
end
end Go.Proofs.YtoaplbljflhheaaGreat
