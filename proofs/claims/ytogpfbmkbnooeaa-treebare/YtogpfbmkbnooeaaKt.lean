/-
  Tests of kinds that are handed on: what a function value must do to be one. Contracts of tree.isStatement, isType, isResult, isExpression, of slices.Index and slices.Contains at bytes, of tree.is and tree.each. Conditions: as said.
-/
import Derived.Test.YtogpfbmkbnooeaaNd
namespace Go.Proofs.Ytogpfbmkbnooeaa
open Go.RowKit
set_option linter.unusedVariables false

/-- A row of bytes that lies in memory. -/
def KRow (w : World) (a : Option Addr) (ks : List Nat) : Prop := ∀ i, i < ks.length → ∃ g o, a = some ⟨g, o, none⟩ ∧ w.cell? ⟨g, o + i, none⟩ = some (.int .u8 (ks.getD i 0 : Nat)) ∧ ks.getD i 0 < 256

theorem KRow.carry {w w' : World} {a : Option Addr} {ks : List Nat} (h : KRow w a ks) (hb : Below w.heap.size w w') : KRow w' a ks := fun i hi => by
  obtain ⟨g, o, h1, h2, h3⟩ := h i hi
  exact ⟨g, o, h1, cell_carry hb h2, h3⟩

/-- A function value that tells of a kind. -/
def KT (w : World) (v : Value) (p : Nat → Bool) : Prop := ∃ f caps, v = .func (.func f) #[] caps ∧ (∀ args w, (callFunc f args).run Try.prog w = .ok (.enter f args) w) ∧
  ∀ w', Below w.heap.size w w' → ∀ c : Nat, c < 256 → ∀ q, p c = q → Calls Try.prog f (#[.int .u8 (c : Nat)] ++ caps) w' fun e w'' => e = .returned (.bool q) ∧ w' = w''

theorem KT.carry {w w' : World} {v : Value} {p : Nat → Bool} (h : KT w v p) (hb : Below w.heap.size w w') : KT w' v p := by
  obtain ⟨f, caps, h1, h2, h3⟩ := h
  exact ⟨f, caps, h1, h2, fun w2 h => h3 w2 (below_step hb h)⟩

/-- A function value that tells of a row of kinds. -/
def RT (w : World) (v : Value) (p : List Nat → Bool) : Prop := ∃ f caps, v = .func (.func f) #[] caps ∧ (∀ args w, (callFunc f args).run Try.prog w = .ok (.enter f args) w) ∧
  ∀ w', Below w.heap.size w w' → ∀ (g o n cap : Nat) (ks : List Nat), ks.length = n → n ≤ cap → cap ≤ 1000000 → KRow w' (some ⟨g, o, none⟩) ks → ∀ q, p ks = q → Calls Try.prog f (#[.slice (some ⟨g, o, none⟩) n cap] ++ caps) w' fun e w'' => e = .returned (.bool q) ∧ Below w'.heap.size w' w''

theorem RT.carry {w w' : World} {v : Value} {p : List Nat → Bool} (h : RT w v p) (hb : Below w.heap.size w w') : RT w' v p := by
  obtain ⟨f, caps, h1, h2, h3⟩ := h
  exact ⟨f, caps, h1, h2, fun w2 h => h3 w2 (below_step hb h)⟩

def isStmt (k : Nat) : Bool := decide (7 ≤ k ∧ k ≤ 13)
def isTyp (k : Nat) : Bool := decide (15 ≤ k ∧ k ≤ 20)
def isRes (k : Nat) : Bool := decide (14 ≤ k ∧ k ≤ 20)
def isExp (k : Nat) : Bool := decide (21 ≤ k ∧ k ≤ 32)

theorem isStatement_any (c : Nat) (hc : c < 256) (w : World) (q : Bool) (hq : isStmt c = q) : Calls Try.prog 50 #[.int .u8 (c : Nat)] w fun e w' => e = .returned (.bool q) ∧ w = w' := by
  subst hq
  by_cases a1 : 7 ≤ c
  · by_cases a2 : c ≤ 13
    · rw [show isStmt c = true by simp [isStmt, a1, a2]]
      have b1 : (7 : Int) ≤ c := by omega
      have b2 : (c : Int) ≤ 13 := by omega
      go_enter Try.func50, Try.ntmps50
      go_wp2
      go_ret
      exact ⟨rfl, rfl⟩
    · rw [show isStmt c = false by simp [isStmt, a2]]
      have b1 : (7 : Int) ≤ c := by omega
      have b2 : decide ((c : Int) ≤ 13) = false := by simp; omega
      go_enter Try.func50, Try.ntmps50
      go_wp2
      go_ret
      exact ⟨rfl, rfl⟩
  · rw [show isStmt c = false by simp [isStmt, a1]]
    have b1 : ¬ (7 : Int) ≤ c := by omega
    go_enter Try.func50, Try.ntmps50
    go_wp2
    go_ret
    exact ⟨rfl, rfl⟩

theorem isExpression_any (c : Nat) (hc : c < 256) (w : World) (q : Bool) (hq : isExp c = q) : Calls Try.prog 51 #[.int .u8 (c : Nat)] w fun e w' => e = .returned (.bool q) ∧ w = w' := by
  subst hq
  by_cases a1 : 21 ≤ c
  · by_cases a2 : c ≤ 32
    · rw [show isExp c = true by simp [isExp, a1, a2]]
      have b1 : (21 : Int) ≤ c := by omega
      have b2 : (c : Int) ≤ 32 := by omega
      go_enter Try.func51, Try.ntmps51
      go_wp2
      go_ret
      exact ⟨rfl, rfl⟩
    · rw [show isExp c = false by simp [isExp, a2]]
      have b1 : (21 : Int) ≤ c := by omega
      have b2 : decide ((c : Int) ≤ 32) = false := by simp; omega
      go_enter Try.func51, Try.ntmps51
      go_wp2
      go_ret
      exact ⟨rfl, rfl⟩
  · rw [show isExp c = false by simp [isExp, a1]]
    have b1 : ¬ (21 : Int) ≤ c := by omega
    go_enter Try.func51, Try.ntmps51
    go_wp2
    go_ret
    exact ⟨rfl, rfl⟩

theorem isType_any (c : Nat) (hc : c < 256) (w : World) (q : Bool) (hq : isTyp c = q) : Calls Try.prog 47 #[.int .u8 (c : Nat)] w fun e w' => e = .returned (.bool q) ∧ w = w' := by
  subst hq
  by_cases a1 : 15 ≤ c
  · by_cases a2 : c ≤ 20
    · rw [show isTyp c = true by simp [isTyp, a1, a2]]
      have b1 : (14 : Int) < c := by omega
      have b2 : (c : Int) ≤ 20 := by omega
      go_enter Try.func47, Try.ntmps47
      go_wp2
      go_ret
      exact ⟨rfl, rfl⟩
    · rw [show isTyp c = false by simp [isTyp, a2]]
      have b1 : (14 : Int) < c := by omega
      have b2 : decide ((c : Int) ≤ 20) = false := by simp; omega
      go_enter Try.func47, Try.ntmps47
      go_wp2
      go_ret
      exact ⟨rfl, rfl⟩
  · rw [show isTyp c = false by simp [isTyp, a1]]
    have b1 : ¬ (14 : Int) < c := by omega
    go_enter Try.func47, Try.ntmps47
    go_wp2
    go_ret
    exact ⟨rfl, rfl⟩

theorem isResult_any (c : Nat) (hc : c < 256) (w : World) (q : Bool) (hq : isRes c = q) : Calls Try.prog 49 #[.int .u8 (c : Nat)] w fun e w' => e = .returned (.bool q) ∧ w = w' := by
  subst hq
  have HT := Lib.hid (isType_any c hc w)
  by_cases a1 : c = 14
  · rw [show isRes c = true by simp [isRes, a1]]
    have b1 : ((c : Int) == 14) = true := by rw [a1]; rfl
    clear a1
    go_enter Try.func49, Try.ntmps49
    go_wp2_with fail
    go_ret
    exact ⟨rfl, rfl⟩
  · have e : isTyp c = isRes c := by unfold isTyp isRes; rw [decide_eq_decide]; omega
    have b1 : ((c : Int) == 14) = false := by rw [beq_eq_false_iff_ne]; omega
    clear a1
    replace e := Lib.hid e
    generalize isRes c = q at e
    go_enter Try.func49, Try.ntmps49
    go_wp2_with (go_at_call 47; refine (HT.out q e.out).mono ?_; rintro e w' ⟨rfl, rfl⟩)
    go_ret
    exact ⟨rfl, rfl⟩

theorem plain_kt {f : FuncId} {p : Nat → Bool} (eg : ∀ args w, (callFunc f args).run Try.prog w = .ok (.enter f args) w) (h : ∀ c : Nat, c < 256 → ∀ w q, p c = q → Calls Try.prog f #[.int .u8 (c : Nat)] w fun e w' => e = .returned (.bool q) ∧ w = w') (w : World) : KT w (.func (.func f) #[] #[]) p :=
  ⟨f, #[], rfl, eg, fun w' _ c hc q hq => h c hc w' q hq⟩

theorem stmt_kt (w : World) : KT w (.func (.func 50) #[] #[]) isStmt := plain_kt (by intro args w; simp [go_sem]) isStatement_any w
theorem exp_kt (w : World) : KT w (.func (.func 51) #[] #[]) isExp := plain_kt (by intro args w; simp [go_sem]) isExpression_any w
theorem typ_kt (w : World) : KT w (.func (.func 47) #[] #[]) isTyp := plain_kt (by intro args w; simp [go_sem]) isType_any w
theorem res_kt (w : World) : KT w (.func (.func 49) #[] #[]) isRes := plain_kt (by intro args w; simp [go_sem]) isResult_any w

/-- Where a byte stands first. -/
def idx (ks : List Nat) (c : Nat) : Int := if c ∈ ks then (ks.idxOf c : Nat) else -1

set_option maxHeartbeats 400000 in
theorem index_any (a : Option Addr) (n cap : Nat) (ks : List Nat) (c : Nat) (w : World) (hn : Hid (ks.length = n)) (hl : n ≤ 1000000) (hr : Hid (KRow w a ks)) (q : Bool) (hq : Hid (ks.contains c = q)) :
    Calls Try.prog 68 #[.slice a n cap, .int .u8 (c : Nat)] w fun e w' => (∃ z : Int, e = .returned (.int .i64 z) ∧ decide (0 ≤ z) = q) ∧ w = w' := by
  go_enter Try.func68, Try.ntmps68
  go_wp2_with fail
  go_loop [8] (fun j => ∃ k : Nat, k ≤ n ∧ j = .int .i64 k ∧ ∀ k', k' < k → ks.getD k' 0 ≠ c) (fun j => n - (intOf j).toNat)
  case atStart => exact ⟨0, Nat.zero_le _, rfl, fun k' h => absurd h (by omega)⟩
  case round =>
    obtain ⟨k, hk, rfl, hne⟩ := hrel
    replace hne := Lib.hid hne
    by_cases hlt : k < n
    · obtain ⟨g, o, rfl, hc, hk2⟩ := hr.out k (by rw [hn.out]; exact hlt)
      obtain ⟨d, hd⟩ : ∃ d, ks.getD k 0 = d := ⟨_, rfl⟩
      rw [hd] at hc hk2
      by_cases hcd : c = d
      · have hq' : q = true := by
          rw [← hq.out, List.contains_iff_mem, hcd, ← hd]
          have hkl : k < ks.length := by rw [hn.out]; exact hlt
          simp [List.getD, hkl]
        subst hq'
        have e1 : ((c : Int) == (d : Int)) = true := by rw [hcd]; simp
        clear hcd hd
        go_wp2_with fail
        go_ret
        exact ⟨⟨_, rfl, by simp⟩, rfl⟩
      · have e1 : ((c : Int) == (d : Int)) = false := by rw [beq_eq_false_iff_ne]; omega
        have HN := Lib.hid (show ∀ k', k' < k + 1 → ks.getD k' 0 ≠ c from fun k' h => by
          by_cases e : k' = k
          · subst e; rw [hd]; exact fun e => hcd e.symm
          · exact hne.out k' (by omega))
        clear hcd hd
        go_wp2_with fail
        go_round
        case rel => exact ⟨k + 1, hlt, by go_num, HN.out⟩
        case measure => simp [intOf]; omega
    · have hq' : q = false := by
        rw [← hq.out, Bool.eq_false_iff]
        intro h
        rw [List.contains_iff_mem] at h
        obtain ⟨i, hi, he⟩ := List.getElem_of_mem h
        exact hne.out i (by rw [hn.out] at hi; omega) (by simp [List.getD, hi, he])
      subst hq'
      go_wp2_with fail
      go_ret
      exact ⟨⟨_, rfl, by decide⟩, rfl⟩

theorem contains_any (a : Option Addr) (n cap : Nat) (ks : List Nat) (c : Nat) (w : World) (hn : ks.length = n) (hl : n ≤ 1000000) (hr : KRow w a ks) (q : Bool) (hq : ks.contains c = q) :
    Calls Try.prog 58 #[.slice a n cap, .int .u8 (c : Nat)] w fun e w' => e = .returned (.bool q) ∧ w = w' := by
  have H := Lib.hid (index_any a n cap ks c w (Lib.hid hn) hl (Lib.hid hr) q (Lib.hid hq))
  clear hn hr hq
  go_enter Try.func58, Try.ntmps58
  go_wp2_with fail
  refine H.out.mono ?_
  rintro e w' ⟨⟨z, rfl, hz⟩, rfl⟩
  go_wp2_with fail
  go_ret
  exact ⟨rfl, rfl⟩

theorem is1_any (b : Nat) (a : Option Addr) (n cap : Nat) (ks : List Nat) (c : Nat) (w : World) (hn : ks.length = n) (hl : n ≤ 1000000) (hr : KRow w a ks) (hb : w.cell? ⟨b, 0, none⟩ = some (.slice a n cap)) (q : Bool) (hq : ks.contains c = q) :
    Calls Try.prog 57 #[.int .u8 (c : Nat), .pointer (some ⟨b, 0, none⟩)] w fun e w' => e = .returned (.bool q) ∧ w = w' := by
  have H := Lib.hid (contains_any a n cap ks c w hn hl hr q hq)
  clear hn hr hq
  go_enter Try.func57, Try.ntmps57
  go_wp2_with (go_at_call 58; refine H.out.mono ?_; rintro e w' ⟨rfl, rfl⟩)
  go_ret
  exact ⟨rfl, rfl⟩

theorem is_any (a : Option Addr) (n cap : Nat) (ks : List Nat) (w : World) (hn : ks.length = n) (hl : n ≤ 1000000) (hr : KRow w a ks) :
    Calls Try.prog 44 #[.slice a n cap] w fun e w' => ∃ v, e = .returned v ∧ KT w' v ks.contains ∧ Below w.heap.size w w' := by
  have HK : Hid (KT (w.alloc (.cells #[.slice a n cap] 41)) (.func (.func 57) #[] #[.pointer (some ⟨w.heap.size, 0, none⟩)]) ks.contains) := Lib.hid
    ⟨57, _, rfl, by intro args w; simp [go_sem], fun w' hb c _ q hq => is1_any w.heap.size a n cap ks c w' hn hl ((hr.carry (below_alloc _ _)).carry hb) (cell_carry hb (by simp [go_sem])) q hq⟩
  clear hn hr
  go_enter Try.func44, Try.ntmps44
  go_wp2_with fail
  go_ret
  exact ⟨_, rfl, HK.out, below_alloc _ _⟩

set_option maxHeartbeats 400000 in
theorem each1_any (b : Nat) (v : Value) (p : Nat → Bool) (w : World) (hk : Hid (KT w v p)) (hb : w.cell? ⟨b, 0, none⟩ = some v) (a : Option Addr) (n cap : Nat) (ks : List Nat) (hn : Hid (ks.length = n)) (hl : n ≤ 1000000) (hr : Hid (KRow w a ks)) (q : Bool) (hq : Hid (ks.all p = q)) :
    Calls Try.prog 59 #[.slice a n cap, .pointer (some ⟨b, 0, none⟩)] w fun e w' => e = .returned (.bool q) ∧ w = w' := by
  obtain ⟨f, caps, rfl, eg, hc⟩ := hk.out
  clear hk
  replace hc := Lib.hid hc
  go_enter Try.func59, Try.ntmps59
  go_wp2_with fail
  go_loop [8] (fun j => ∃ k : Nat, k ≤ n ∧ j = .int .i64 k ∧ ∀ k', k' < k → p (ks.getD k' 0) = true) (fun j => n - (intOf j).toNat)
  case atStart => exact ⟨0, Nat.zero_le _, rfl, fun k' h => absurd h (by omega)⟩
  case round =>
    obtain ⟨k, hk, rfl, hall⟩ := hrel
    replace hall := Lib.hid hall
    by_cases hlt : k < n
    · obtain ⟨g, o, rfl, hcell, hk2⟩ := hr.out k (by rw [hn.out]; exact hlt)
      have hkl : k < ks.length := by rw [hn.out]; exact hlt
      obtain ⟨d, hd⟩ : ∃ d, ks.getD k 0 = d := ⟨_, rfl⟩
      rw [hd] at hcell hk2
      have HC := Lib.hid (hc.out w (Below.refl _ _) d hk2)
      cases hp : p d with
      | true =>
        have HN := Lib.hid (show ∀ k', k' < k + 1 → p (ks.getD k' 0) = true from fun k' h => by
          by_cases e : k' = k
          · subst e; rw [hd]; exact hp
          · exact hall.out k' (by omega))
        replace hp := Lib.hid hp
        clear hd
        go_wp2_with fail
        refine (HC.out true hp.out).mono ?_
        rintro e w' ⟨rfl, rfl⟩
        go_wp2_with fail
        go_round
        case rel => exact ⟨k + 1, hlt, by go_num, HN.out⟩
        case measure => simp [intOf]; omega
      | false =>
        have hq' : q = false := by
          rw [← hq.out, List.all_eq_false]
          exact ⟨d, by rw [← hd]; simp [List.getD, hkl], by simp [hp]⟩
        subst hq'
        replace hp := Lib.hid hp
        clear hd
        go_wp2_with fail
        refine (HC.out false hp.out).mono ?_
        rintro e w' ⟨rfl, rfl⟩
        go_wp2_with fail
        go_ret
        exact ⟨rfl, rfl⟩
    · have hq' : q = true := by
        rw [← hq.out, List.all_eq_true]
        intro c hc
        obtain ⟨i, hi, rfl⟩ := List.getElem_of_mem hc
        have := hall.out i (by rw [hn.out] at hi; omega)
        simpa [List.getD, hi] using this
      subst hq'
      go_wp2_with fail
      go_ret
      exact ⟨rfl, rfl⟩

theorem each_any (v : Value) (p : Nat → Bool) (w : World) (hk : KT w v p) :
    Calls Try.prog 45 #[v] w fun e w' => ∃ v', e = .returned v' ∧ RT w' v' (fun ks => ks.all p) ∧ Below w.heap.size w w' := by
  have HK : Hid (RT (w.alloc (.cells #[v] 50)) (.func (.func 59) #[] #[.pointer (some ⟨w.heap.size, 0, none⟩)]) (fun ks => ks.all p)) := Lib.hid
    ⟨59, _, rfl, by intro args w; simp [go_sem], fun w' hb g o n cap ks h1 h2 h3 h4 q hq => same_below (each1_any w.heap.size v p w' (Lib.hid ((hk.carry (below_alloc _ _)).carry hb)) (cell_carry hb (by simp [go_sem])) _ n cap ks (Lib.hid h1) (by omega) (Lib.hid h4) q (Lib.hid hq))⟩
  obtain ⟨f, caps, rfl, _⟩ := hk
  go_enter Try.func45, Try.ntmps45
  go_wp2_with fail
  go_ret
  exact ⟨_, rfl, HK.out, below_alloc _ _⟩

end Go.Proofs.Ytogpfbmkbnooeaa
