/-
  The walk of TreeBare. Conditions: none beyond rows' own.
-/
import Derived.Test.YtogpfbmkbnooeaaSas
import Derived.Test.YtogpfbmkbnooeaaAw
import Derived.Test.YtogpfbmkbnooeaaMny
import Derived.Laws.AppendOwnNone
namespace Go.Proofs.Ytogpfbmkbnooeaa
open Go.RowKit Go.Sort
set_option linter.unusedVariables false

/-- All of a row's cells. -/
def cellsL (l : List Nd) : List Value := (List.range (l.length * 6)).map (flat (nd l))
theorem cellsL_len (l : List Nd) : (cellsL l).length = l.length * 6 := by simp [cellsL]
theorem cellsL_at {l : List Nd} {j : Nat} (hj : j < l.length * 6) : (cellsL l)[j]? = some (flat (nd l) j) := by simp [cellsL, hj]

theorem flat_cases (F : Nat → Nd) (j : Nat) : (flat F j).oneCell' = true := by
  have hj : j % 6 < 6 := Nat.mod_lt _ (by omega)
  unfold flat
  generalize j % 6 = r at *
  match r, hj with
  | 0, _ => rfl
  | 1, _ => rfl
  | 2, _ => rfl
  | 3, _ => rfl
  | 4, _ => rfl
  | 5, _ => rfl

theorem row_cells {w : World} {b o : Nat} {l : List Nd} (h : Row w (some ⟨b, o, none⟩) l) {j : Nat} (hj : j < l.length * 6) : w.cell? ⟨b, o + j, none⟩ = some (flat (nd l) j) := by
  obtain ⟨b', o', he, hat, _⟩ := h (j / 6) (by omega)
  cases he
  have hr : j % 6 < 6 := Nat.mod_lt _ (by omega)
  have hj2 : j = j / 6 * 6 + j % 6 := by omega
  have ho : o + j = o + j / 6 * 6 + j % 6 := by omega
  rw [ho]
  unfold flat
  generalize j % 6 = r at *
  match r, hr with
  | 0, _ => exact hat.c0
  | 1, _ => exact hat.c1
  | 2, _ => exact hat.c2
  | 3, _ => exact hat.c3
  | 4, _ => exact hat.c4
  | 5, _ => exact hat.c5

/-- A row of nodes that the call owns lies in memory. -/
theorem row_owned {w w0 : World} {a : Option Addr} {B : Nat} {v : Value} {l : List Nd} (h0 : Row w0 a l) (h : w.ownsRow B 31 6 v l.length (cellsL l)) : ∃ a' cap', v = .slice a' l.length cap' ∧ Row w a' l := by
  rcases h.2 with ⟨rfl, hn⟩ | ⟨g, cap, cur, rfl, h1, h2⟩
  · exact ⟨none, 0, by rw [hn], fun i hi => by omega⟩
  · have hown : w.ownsRow B 31 6 (.slice (some ⟨g, 0, none⟩) l.length cap) l.length (cellsL l) := h
    refine ⟨_, cap, rfl, fun i hi => ⟨g, 0, rfl, ?_, (h0 i hi).elim fun _ h => h.elim fun _ h => h.2.2⟩⟩
    have key : ∀ j, j < 6 → w.cell? ⟨g, i * 6 + j, none⟩ = some ((ndCells (nd l i)).getD j (.bool false)) := fun j hj => by
      have hc := hown.cellAt (i * 6 + j) (by omega)
      rw [hc]
      have := cellsL_at (l := l) (j := i * 6 + j) (by omega)
      rw [flat, show (i * 6 + j) / 6 = i by omega, show (i * 6 + j) % 6 = j by omega] at this
      simp [List.getD, this]
    rw [Nat.zero_add]
    exact ⟨key 0 (by omega), key 1 (by omega), key 2 (by omega), key 3 (by omega), key 4 (by omega), key 5 (by omega)⟩

theorem bare_same (l : List Nd) : sameB (l.map bare) l = true := same_good (by simp) fun i hi => by
  rw [List.length_map] at hi
  have e : nd (l.map bare) i = bare (nd l i) := by simp [nd, List.getD, hi]
  rw [e]
  simp [eqN, bare]

theorem treeBare_many (a : Option Addr) (n cap : Nat) (a' : Option Addr) (n' cap' : Nat) (w : World) (h : (Calls Try.prog 8 #[.slice a n cap] w fun e w' => e = .returned (.bool true) ∧ w = w') ∨ ((Calls Try.prog 8 #[.slice a n cap] w fun e w' => e = .returned (.bool false) ∧ w = w') ∧ Calls Try.prog 8 #[.slice a' n' cap'] w fun e w' => e = .returned (.bool true) ∧ w = w')) :
    Calls Try.prog 6 #[.slice a n cap, .slice a' n' cap'] w fun e w' => e = .returned (.bool true) ∧ Below w.heap.size w w' := by
  have HA := Lib.hid awake_any
  rcases h with h | ⟨h1, h2⟩
  · replace h := Lib.hid h
    go_enter Try.func6, Try.ntmps6
    go_wp2_with fail
    refine h.out.mono ?_
    rintro e w1 ⟨rfl, rfl⟩
    go_wp2_with fail
    refine (HA.out _).mono ?_
    rintro e w1 ⟨rfl, hb1⟩
    replace hb1 := Lib.hid hb1
    go_wp2_with fail
    go_ret
    exact ⟨rfl, hb1.out⟩
  · replace h1 := Lib.hid h1
    replace h2 := Lib.hid h2
    go_enter Try.func6, Try.ntmps6
    go_wp2_with fail
    refine h1.out.mono ?_
    rintro e w1 ⟨rfl, rfl⟩
    go_wp2_with fail
    refine h2.out.mono ?_
    rintro e w1 ⟨rfl, rfl⟩
    go_wp2_with fail
    refine (HA.out _).mono ?_
    rintro e w1 ⟨rfl, hb1⟩
    replace hb1 := Lib.hid hb1
    go_wp2_with fail
    go_ret
    exact ⟨rfl, hb1.out⟩

set_option maxHeartbeats 4000000 in
set_option maxRecDepth 100000 in
theorem treeBare_few (a : Option Addr) (n cap : Nat) (l : List Nd) (a' : Option Addr) (n' cap' : Nat) (m : List Nd) (w : World) (hn : Hid (l.length = n)) (hn' : Hid (m.length = n')) (hl : n ≤ 4000) (hl' : n' ≤ 4000) (hr : Hid (Row w a l)) (hr' : Hid (Row w a' m)) (hnil : a = none → n = 0 ∧ cap = 0)
    (HM : Hid (Calls Try.prog 8 #[.slice a n cap] w fun e w' => e = .returned (.bool false) ∧ w = w')) (HM' : Hid (Calls Try.prog 8 #[.slice a' n' cap'] w fun e w' => e = .returned (.bool false) ∧ w = w')) :
    Calls Try.prog 6 #[.slice a n cap, .slice a' n' cap'] w fun e w' => e = .returned (.bool true) ∧ Below w.heap.size w w' := by
  have HA := Lib.hid awake_any
  obtain ⟨q, hq⟩ : ∃ q, sameB l m = q := ⟨_, rfl⟩
  have e1 : (q == q) = true := by simp
  have hbs := Lib.hid (bare_same l)
  have hln := Lib.hid (show (l.map bare).length = n by rw [List.length_map, hn.out])
  replace hq := Lib.hid hq
  obtain ⟨i0, hi0, hz0, hz1, hz2⟩ := info_parts Try.info31
  have HB0 := Lib.hid (below_alloc w (.cells #[] 31))
  have HOW0 : Hid ((w.alloc (.cells #[] 31)).ownsRow w.heap.size 31 6 (.slice (some ⟨w.heap.size, 0, none⟩) 0 0) 0 []) := Lib.hid (World.ownsRow_made w #[] 0 (Nat.le_refl _) (by decide) rfl)
  -- what follows once the copy is made
  have key : ∀ (v : Value) (w1 : World), w1.ownsRow w.heap.size 31 6 v n (cellsL l) → Below w.heap.size w w1 → ∃ a1 cap1, v = .slice a1 n cap1 ∧ Row w1 a1 l := fun v w1 h1 _ => by
    have := row_owned hr.out (B := w.heap.size) (w := w1) (v := v) (l := l) (by rw [hn.out]; exact h1)
    rw [hn.out] at this
    exact this
  replace key := Lib.hid key
  cases a with
  | none =>
    obtain ⟨rfl, rfl⟩ := hnil rfl
    clear hnil
    go_enter Try.func6, Try.ntmps6
    go_wp2_with fail
    refine HM.out.mono ?_
    rintro e w1 ⟨rfl, rfl⟩
    go_wp2_with fail
    refine HM'.out.mono ?_
    rintro e w1 ⟨rfl, rfl⟩
    have hl0 : cellsL l = [] := by
      have := cellsL_len l
      rw [hn.out] at this
      exact List.eq_nil_of_length_eq_zero this
    obtain ⟨a1, cap1, hv1, hrow1⟩ := key.out _ _ (by rw [hl0]; exact HOW0.out) HB0.out
    cases hv1
    clear hl0 key
    go_wp2_with (at_builtin; refine wpList_append_own_none rfl _ _ 22 rfl w.heap.size 31 i0 6 Try.underlying22 hi0 _ 0 [] rfl HOW0.out rfl ?_)
    have HB1 := HB0
    refine (bare_any (some ⟨w.heap.size, 0, none⟩) 0 0 l _ hn (by omega) (Lib.hid hrow1)).mono ?_
    rintro e w2 ⟨g, rfl, hrb, hb2⟩
    have hrow2 := Lib.hid (hrow1.carry hb2)
    have HB2 := Lib.hid (below_step HB1.out hb2)
    replace hrb := Lib.hid hrb
    clear hb2 hrow1 HB1
    have HC : Hid (∀ i, i < 0 → w2.cell? ⟨g, i * 6 + 1, none⟩ = some (.int .i64 0) ∧ w2.cell? ⟨g, i * 6 + 2, none⟩ = some (.int .i64 0)) := Lib.hid fun i hi => by
      obtain ⟨b, o, he, hat, _⟩ := hrb.out i (by rw [hln.out]; exact hi)
      cases he
      rw [Nat.zero_add] at hat
      have hil : i < l.length := by rw [hn.out]; exact hi
      have e : nd (l.map bare) i = bare (nd l i) := by simp [nd, List.getD, hil]
      rw [e] at hat
      exact ⟨hat.c1, hat.c2⟩
    go_wp2_with fail
    go_loop [22] (fun j => ∃ k : Nat, k ≤ 0 ∧ j = .int .i64 k) (fun j => 0 - (intOf j).toNat)
    case atStart => exact ⟨0, Nat.zero_le _, rfl⟩
    case round =>
      obtain ⟨k, hk, rfl⟩ := hrel
      by_cases hlt : k < 0
      · omega
      · clear HC
        go_wp2_with fail
        refine (rsame_any (some ⟨g, 0, none⟩) 0 0 (l.map bare) none 0 0 l _ hln hn (by omega) (by omega) hrb (Lib.hid (hr.out.carry HB2.out)) true hbs).mono ?_
        rintro e w3 ⟨rfl, hb3⟩
        replace hrow2 := Lib.hid (hrow2.out.carry hb3)
        replace hrb := Lib.hid (hrb.out.carry hb3)
        have HB3 := Lib.hid (below_step HB2.out hb3)
        clear hb3 HB2
        go_wp2_with fail
        refine (requal_self (some ⟨w.heap.size, 0, none⟩) 0 0 l none 0 _ hn (by omega) hrow2 (Lib.hid (hr.out.carry HB3.out))).mono ?_
        rintro e w4 ⟨rfl, hb4⟩
        replace hrb := Lib.hid (hrb.out.carry hb4)
        have HB4 := Lib.hid (below_step HB3.out hb4)
        clear hb4 HB3 hrow2
        go_wp2_with fail
        refine (same_any (some ⟨g, 0, none⟩) 0 0 (l.map bare) none 0 0 l _ hln.out hn.out (by omega) (by omega) hrb.out (hr.out.carry HB4.out) true hbs.out).mono ?_
        rintro e w5 ⟨rfl, hb5⟩
        have HB5 := Lib.hid (below_step HB4.out hb5)
        clear hb5 HB4 hrb
        go_wp2_with fail
        refine (same_any none 0 0 l a' n' cap' m _ hn.out hn'.out (by omega) (by omega) (hr.out.carry HB5.out) (hr'.out.carry HB5.out) q hq.out).mono ?_
        rintro e w6 ⟨rfl, hb6⟩
        have HB6 := Lib.hid (below_step HB5.out hb6)
        clear hb6 HB5
        go_wp2_with fail
        refine (rsame_any none 0 0 l a' n' cap' m _ hn hn' (by omega) (by omega) (Lib.hid (hr.out.carry HB6.out)) (Lib.hid (hr'.out.carry HB6.out)) q hq).mono ?_
        rintro e w7 ⟨rfl, hb7⟩
        have HB7 := Lib.hid (below_step HB6.out hb7)
        clear hb7 HB6
        go_wp2_with fail
        refine (HA.out _).mono ?_
        rintro e w8 ⟨rfl, hb8⟩
        replace hb8 := Lib.hid (below_step HB7.out hb8)
        go_wp2_with fail
        go_ret
        exact ⟨rfl, hb8.out⟩
  | some ad =>
    clear hnil
    have hnews : Hid (∀ j u, (cellsL l)[j]? = some u → (w.alloc (.cells #[] 31)).cell? (ad.add j) = some u) := Lib.hid fun j u hu => by
      have hj : j < l.length * 6 := by
        rcases Nat.lt_or_ge j (l.length * 6) with h | h
        · exact h
        · rw [List.getElem?_eq_none (by rw [cellsL_len]; exact h)] at hu; cases hu
      rw [cellsL_at hj] at hu
      cases hu
      obtain ⟨b, o, he, _⟩ := hr.out 0 (by omega)
      cases he
      have : (⟨b, o, none⟩ : Addr).add j = ⟨b, o + j, none⟩ := by unfold Addr.add; split <;> simp_all
      rw [this]
      exact row_cells (hr.out.carry HB0.out) hj
    have hone : Hid (∀ u, u ∈ cellsL l → u.oneCell' = true) := Lib.hid fun u hu => by
      obtain ⟨j, _, rfl⟩ := List.mem_map.1 hu
      exact flat_cases _ _
    have hlen : Hid ((cellsL l).length = n * 6) := Lib.hid (by rw [cellsL_len, hn.out])
    go_enter Try.func6, Try.ntmps6
    go_wp2_with fail
    refine HM.out.mono ?_
    rintro e w1 ⟨rfl, rfl⟩
    go_wp2_with fail
    refine HM'.out.mono ?_
    rintro e w1 ⟨rfl, rfl⟩
    go_wp2_with (at_builtin; refine wpList_append_own _ rfl _ _ 22 rfl w.heap.size 31 i0 _ 6 56 Try.underlying22 hi0 hz0 hz1 hz2 rfl (by decide) _ 0 [] rfl HOW0.out ad n cap (cellsL l) rfl hlen.out hnews.out hone.out (by unfold maxLen; omega) (by omega) (by simp) ?_; intro v1 w1 ho1 hg1 _; have HB1 := Lib.hid (HB0.out.trans ((Below.refl w.heap.size _).grown hg1 (by simp) (fun r hr => (HOW0.out.lt r hr).1))); rw [Nat.zero_add, List.nil_append] at ho1; obtain ⟨a1, cap1, hv1, hrow1⟩ := key.out _ _ ho1 HB1.out; subst hv1; clear ho1 hg1 key)
    refine (bare_any a1 n cap1 l _ hn (by omega) (Lib.hid hrow1)).mono ?_
    rintro e w2 ⟨g, rfl, hrb, hb2⟩
    have hrow2 := Lib.hid (hrow1.carry hb2)
    have HB2 := Lib.hid (below_step HB1.out hb2)
    replace hrb := Lib.hid hrb
    clear hb2 hrow1 HB1
    have HC : Hid (∀ i, i < n → w2.cell? ⟨g, i * 6 + 1, none⟩ = some (.int .i64 0) ∧ w2.cell? ⟨g, i * 6 + 2, none⟩ = some (.int .i64 0)) := Lib.hid fun i hi => by
      obtain ⟨b, o, he, hat, _⟩ := hrb.out i (by rw [hln.out]; exact hi)
      cases he
      rw [Nat.zero_add] at hat
      have hil : i < l.length := by rw [hn.out]; exact hi
      have e : nd (l.map bare) i = bare (nd l i) := by simp [nd, List.getD, hil]
      rw [e] at hat
      exact ⟨hat.c1, hat.c2⟩
    go_wp2_with fail
    go_loop [22] (fun j => ∃ k : Nat, k ≤ n ∧ j = .int .i64 k) (fun j => n - (intOf j).toNat)
    case atStart => exact ⟨0, Nat.zero_le _, rfl⟩
    case round =>
      obtain ⟨k, hk, rfl⟩ := hrel
      by_cases hlt : k < n
      · obtain ⟨c1, c2⟩ := HC.out k hlt
        go_wp2_with fail
        go_round
        case rel => exact ⟨k + 1, hlt, by go_num⟩
        case measure => simp [intOf]; omega
      · clear HC
        go_wp2_with fail
        refine (rsame_any (some ⟨g, 0, none⟩) n n (l.map bare) (some ad) n cap l _ hln hn (by omega) (by omega) hrb (Lib.hid (hr.out.carry HB2.out)) true hbs).mono ?_
        rintro e w3 ⟨rfl, hb3⟩
        replace hrow2 := Lib.hid (hrow2.out.carry hb3)
        replace hrb := Lib.hid (hrb.out.carry hb3)
        have HB3 := Lib.hid (below_step HB2.out hb3)
        clear hb3 HB2
        go_wp2_with fail
        refine (requal_self a1 n cap1 l (some ad) cap _ hn (by omega) hrow2 (Lib.hid (hr.out.carry HB3.out))).mono ?_
        rintro e w4 ⟨rfl, hb4⟩
        replace hrb := Lib.hid (hrb.out.carry hb4)
        have HB4 := Lib.hid (below_step HB3.out hb4)
        clear hb4 HB3 hrow2
        go_wp2_with fail
        refine (same_any (some ⟨g, 0, none⟩) n n (l.map bare) (some ad) n cap l _ hln.out hn.out (by omega) (by omega) hrb.out (hr.out.carry HB4.out) true hbs.out).mono ?_
        rintro e w5 ⟨rfl, hb5⟩
        have HB5 := Lib.hid (below_step HB4.out hb5)
        clear hb5 HB4 hrb
        go_wp2_with fail
        refine (same_any (some ad) n cap l a' n' cap' m _ hn.out hn'.out (by omega) (by omega) (hr.out.carry HB5.out) (hr'.out.carry HB5.out) q hq.out).mono ?_
        rintro e w6 ⟨rfl, hb6⟩
        have HB6 := Lib.hid (below_step HB5.out hb6)
        clear hb6 HB5
        go_wp2_with fail
        refine (rsame_any (some ad) n cap l a' n' cap' m _ hn hn' (by omega) (by omega) (Lib.hid (hr.out.carry HB6.out)) (Lib.hid (hr'.out.carry HB6.out)) q hq).mono ?_
        rintro e w7 ⟨rfl, hb7⟩
        have HB7 := Lib.hid (below_step HB6.out hb7)
        clear hb7 HB6
        go_wp2_with fail
        refine (HA.out _).mono ?_
        rintro e w8 ⟨rfl, hb8⟩
        replace hb8 := Lib.hid (below_step HB7.out hb8)
        go_wp2_with fail
        go_ret
        exact ⟨rfl, hb8.out⟩

open Classical in
theorem treeBare_walk (a : Option Addr) (n cap : Nat) (l : List Nd) (a' : Option Addr) (n' cap' : Nat) (m : List Nd) (w : World) (hn : l.length = n) (hm : n ≤ maxLen) (hr : Row w a l) (hnil : a = none → n = 0 ∧ cap = 0) (hn' : m.length = n') (hm' : n' ≤ maxLen) (hr' : Row w a' m) :
    Calls Try.prog 6 #[.slice a n cap, .slice a' n' cap'] w fun e w' => e = .returned (.bool true) ∧ Below w.heap.size w w' := by
  unfold maxLen at hm hm'
  by_cases h : ∃ k, k ≤ n ∧ 4000 < manyTo l k
  · exact treeBare_many a n cap a' n' cap' w (.inl (many_any a n cap l w (Lib.hid hn) (by omega) (Lib.hid hr) true (Lib.hid ⟨fun _ => rfl, fun _ => h⟩)))
  · have H := many_any a n cap l w (Lib.hid hn) (by omega) (Lib.hid hr) false (Lib.hid ⟨fun hh => absurd hh h, fun hh => by cases hh⟩)
    by_cases h' : ∃ k, k ≤ n' ∧ 4000 < manyTo m k
    · exact treeBare_many a n cap a' n' cap' w (.inr ⟨H, many_any a' n' cap' m w (Lib.hid hn') (by omega) (Lib.hid hr') true (Lib.hid ⟨fun _ => rfl, fun _ => h'⟩)⟩)
    · have H' := many_any a' n' cap' m w (Lib.hid hn') (by omega) (Lib.hid hr') false (Lib.hid ⟨fun hh => absurd hh h', fun hh => by cases hh⟩)
      rw [← hn] at h
      rw [← hn'] at h'
      have k1 := (many_false h).1
      have k2 := (many_false h').1
      exact treeBare_few a n cap l a' n' cap' m w (Lib.hid hn) (Lib.hid hn') (by omega) (by omega) (Lib.hid hr) (Lib.hid hr') hnil (Lib.hid H) (Lib.hid H')

end Go.Proofs.Ytogpfbmkbnooeaa
