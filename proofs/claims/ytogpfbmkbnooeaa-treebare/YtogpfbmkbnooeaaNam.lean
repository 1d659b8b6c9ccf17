/-
  Contracts of tree.isSmall, isGreat, isInName, isSpelt, Name and Great. Conditions: none.
-/
import Derived.Test.YtogpfbmkbnooeaaWrd
namespace Go.Proofs.Ytogpfbmkbnooeaa
open Go.RowKit Go.Sort
set_option linter.unusedVariables false

def smlR (r : Int) : Bool := (decide (97 ≤ r) && decide (r ≤ 122)) || decide (r = 95)
def grtR (r : Int) : Bool := decide (65 ≤ r) && decide (r ≤ 90)
def namR (r : Int) : Bool := smlR r || grtR r || (decide (48 ≤ r) && decide (r ≤ 57))

theorem isSmall_any (r : Int) (w : World) (p : Bool) (hp : smlR r = p) : Calls Try.prog 40 #[.int .i32 r] w fun e w' => e = .returned (.bool p) ∧ w = w' := by
  subst hp
  by_cases a1 : 97 ≤ r
  · by_cases a2 : r ≤ 122
    · rw [show smlR r = true by simp [smlR, a1, a2]]
      go_enter Try.func40, Try.ntmps40
      go_wp2
      go_ret
      exact ⟨rfl, rfl⟩
    · rw [show smlR r = false by simp [smlR, a2]; omega]
      have e : (r == 95) = false := by rw [beq_eq_false_iff_ne]; omega
      go_enter Try.func40, Try.ntmps40
      go_wp2
      go_ret
      exact ⟨rfl, rfl⟩
  · by_cases a3 : r = 95
    · rw [show smlR r = true by simp [smlR, a3]]
      subst a3
      go_enter Try.func40, Try.ntmps40
      go_wp2
      go_ret
      exact ⟨rfl, rfl⟩
    · rw [show smlR r = false by simp [smlR, a1, a3]]
      have e : (r == 95) = false := by rw [beq_eq_false_iff_ne]; exact a3
      clear a3
      go_enter Try.func40, Try.ntmps40
      go_wp2
      go_ret
      exact ⟨rfl, rfl⟩

theorem isGreat_any (r : Int) (w : World) (p : Bool) (hp : grtR r = p) : Calls Try.prog 43 #[.int .i32 r] w fun e w' => e = .returned (.bool p) ∧ w = w' := by
  subst hp
  by_cases a1 : 65 ≤ r
  · by_cases a2 : r ≤ 90
    · rw [show grtR r = true by simp [grtR, a1, a2]]
      go_enter Try.func43, Try.ntmps43
      go_wp2
      go_ret
      exact ⟨rfl, rfl⟩
    · rw [show grtR r = false by simp [grtR, a2]]
      go_enter Try.func43, Try.ntmps43
      go_wp2
      go_ret
      exact ⟨rfl, rfl⟩
  · rw [show grtR r = false by simp [grtR, a1]]
    go_enter Try.func43, Try.ntmps43
    go_wp2
    go_ret
    exact ⟨rfl, rfl⟩

theorem isInName_any (r : Int) (w : World) (p : Bool) (hp : namR r = p) : Calls Try.prog 55 #[.int .i32 r] w fun e w' => e = .returned (.bool p) ∧ w = w' := by
  subst hp
  have HS := Lib.hid (isSmall_any r w)
  have HG := Lib.hid (isGreat_any r w)
  cases h1 : smlR r with
  | true =>
    rw [show namR r = true by simp [namR, h1]]
    replace h1 := Lib.hid h1
    go_enter Try.func55, Try.ntmps55
    go_wp2_with (go_at_call 40; refine (HS.out true h1.out).mono ?_; rintro e w' ⟨rfl, rfl⟩)
    go_ret
    exact ⟨rfl, rfl⟩
  | false =>
    cases h2 : grtR r with
    | true =>
      rw [show namR r = true by simp [namR, h2]]
      replace h1 := Lib.hid h1
      replace h2 := Lib.hid h2
      go_enter Try.func55, Try.ntmps55
      go_wp2_with (first | (go_at_call 40; refine (HS.out false h1.out).mono ?_; rintro e w' ⟨rfl, rfl⟩) | (go_at_call 43; refine (HG.out true h2.out).mono ?_; rintro e w' ⟨rfl, rfl⟩))
      go_ret
      exact ⟨rfl, rfl⟩
    | false =>
      rw [show namR r = (decide (48 ≤ r) && decide (r ≤ 57)) by simp [namR, h1, h2]]
      replace h1 := Lib.hid h1
      replace h2 := Lib.hid h2
      by_cases a1 : 48 ≤ r
      · by_cases a2 : r ≤ 57
        · rw [show (decide (48 ≤ r) && decide (r ≤ 57)) = true by simp [a1, a2]]
          go_enter Try.func55, Try.ntmps55
          go_wp2_with (first | (go_at_call 40; refine (HS.out false h1.out).mono ?_; rintro e w' ⟨rfl, rfl⟩) | (go_at_call 43; refine (HG.out false h2.out).mono ?_; rintro e w' ⟨rfl, rfl⟩))
          go_ret
          exact ⟨rfl, rfl⟩
        · rw [show (decide (48 ≤ r) && decide (r ≤ 57)) = false by simp [a2]]
          have e2 : decide (r ≤ 57) = false := by simpa using a2
          go_enter Try.func55, Try.ntmps55
          go_wp2_with (first | (go_at_call 40; refine (HS.out false h1.out).mono ?_; rintro e w' ⟨rfl, rfl⟩) | (go_at_call 43; refine (HG.out false h2.out).mono ?_; rintro e w' ⟨rfl, rfl⟩))
          go_ret
          exact ⟨rfl, rfl⟩
      · rw [show (decide (48 ≤ r) && decide (r ≤ 57)) = false by simp [a1]]
        go_enter Try.func55, Try.ntmps55
        go_wp2_with (first | (go_at_call 40; refine (HS.out false h1.out).mono ?_; rintro e w' ⟨rfl, rfl⟩) | (go_at_call 43; refine (HG.out false h2.out).mono ?_; rintro e w' ⟨rfl, rfl⟩))
        go_ret
        exact ⟨rfl, rfl⟩

theorem namR_byte (c : UInt8) : namR (c.toNat : Nat) = nam c := by
  have h : (c = 95) ↔ c.toNat = 95 := ⟨fun e => by rw [e]; rfl, fun e => UInt8.toNat_inj.1 (by rw [e]; rfl)⟩
  rw [Bool.eq_iff_iff]
  simp [namR, smlR, grtR, nam, sml, grt, dgt, h]
  omega
theorem smlR_byte (c : UInt8) : smlR (c.toNat : Nat) = sml c := by
  have h : (c = 95) ↔ c.toNat = 95 := ⟨fun e => by rw [e]; rfl, fun e => UInt8.toNat_inj.1 (by rw [e]; rfl)⟩
  rw [Bool.eq_iff_iff]
  simp [smlR, sml, h]
  omega
theorem grtR_byte (c : UInt8) : grtR (c.toNat : Nat) = grt c := by
  rw [Bool.eq_iff_iff]
  simp [grtR, grt]
  omega
theorem namR_high {r : Int} (h : 128 ≤ r) : namR r = false := by simp [namR, smlR, grtR]; omega
theorem nam_high {c : UInt8} (h : 128 ≤ c.toNat) : nam c = false := by rw [← namR_byte]; exact namR_high (by omega)

/-- A name that begins so. -/
def spelt (q : Int → Bool) (l : List UInt8) : Bool := !l.isEmpty && q (l.headD 0).toNat && l.all nam

theorem spelt_bad {q : Int → Bool} {s : ByteArray} {k : Nat} (hk : k < s.size) (h : nam s[k] = false) : spelt q s.data.toList = false := by
  unfold spelt
  rw [Bool.and_eq_false_iff]
  right
  rw [List.all_eq_false]
  refine ⟨s[k], ?_, by simp [h]⟩
  have := get_list s k hk
  exact List.mem_of_getElem? this

theorem spelt_head {q : Int → Bool} {s : ByteArray} (hk : 0 < s.size) (h : q (s[0].toNat : Nat) = false) : spelt q s.data.toList = false := by
  unfold spelt
  rw [head_list s hk, h]
  simp

theorem spelt_good {q : Int → Bool} {s : ByteArray} (hk : 0 < s.size) (h : q (s[0].toNat : Nat) = true) (ha : ∀ k (hk : k < s.size), nam s[k] = true) : spelt q s.data.toList = true := by
  unfold spelt
  rw [head_list s hk, h]
  have h1 : s.data.toList.isEmpty = false := by
    rw [List.isEmpty_eq_false_iff]
    intro e
    rw [← size_list, e] at hk
    simp at hk
  rw [h1]
  simp only [Bool.not_false, Bool.and_true, Bool.true_and]
  rw [List.all_eq_true]
  intro c hc
  obtain ⟨k, hk, rfl⟩ := List.getElem_of_mem hc
  exact ha k (by rw [size_list] at hk; exact hk)

/-- A function on runes that answers so. -/
def RuneTest (f : FuncId) (q : Int → Bool) : Prop := (∀ args w, (callFunc f args).run Try.prog w = .ok (.enter f args) w) ∧ ∀ r w p, q r = p → Calls Try.prog f #[.int .i32 r] w fun e w' => e = .returned (.bool p) ∧ w = w'

theorem isSpelt_empty (f : FuncId) (w : World) : Calls Try.prog 39 #[.string { data := #[] }, .func (.func f) #[] #[]] w fun e w' => e = .returned (.bool false) ∧ Below w.heap.size w w' := by
  have hnx : ∀ ty, (Instr.next (.pointer (some ⟨w.heap.size, 0, none⟩)) true ty).run Try.prog (w.iter { data := #[] } 0) = _ := fun ty => run_next_end w { data := #[] } 0 ty (by decide)
  go_enter Try.func39, Try.ntmps39
  go_wp2
  refine wp_loop_rounds 1 ?_
  rw [rounds_succ]
  go_wp2
  go_ret
  exact ⟨rfl, below_alloc _ _⟩

set_option maxHeartbeats 1000000 in
theorem isSpelt_core (f : FuncId) (q : Int → Bool) (hf : Hid (RuneTest f q)) (s : ByteArray) (w : World) (h0 : 0 < s.size) (P : Bool) (hP : Hid (spelt q s.data.toList = P)) :
    Calls Try.prog 39 #[.string s, .func (.func f) #[] #[]] w fun e w' => e = .returned (.bool P) ∧ Below w.heap.size w w' := by
  have eg := hf.out.1
  have HI := Lib.hid isInName_any
  have h0' := Lib.hid h0
  go_enter Try.func39, Try.ntmps39
  go_wp2_with fail
  go_loopw [5] (fun _ wr => ∃ pos : Nat, wr = w.iter s pos ∧ pos ≤ s.size ∧ (0 < pos → q (s[0].toNat : Nat) = true) ∧ ∀ k (hk : k < s.size), k < pos → nam s[k] = true) (fun _ wr => s.size - wr.iterPos w.heap.size)
  case atStart => exact ⟨0, rfl, Nat.zero_le _, fun h => absurd h (by omega), fun k _ h => absurd h (by omega)⟩
  case round =>
    obtain ⟨pos, rfl, hpos, hq, hall⟩ := hrel
    replace hall := Lib.hid hall
    by_cases hp : pos < s.size
    · by_cases ha : s[pos].toNat < 128
      · have hnx : ∀ ty, (Instr.next (.pointer (some ⟨w.heap.size, 0, none⟩)) true ty).run Try.prog (w.iter s pos) = _ := fun ty => run_next_ascii w s pos ty hp ha
        cases hn : nam s[pos] with
        | false =>
          have hP' : P = false := by rw [← hP.out]; exact spelt_bad hp hn
          subst hP'
          rw [← namR_byte] at hn
          replace hn := Lib.hid hn
          by_cases hz : pos = 0
          · subst hz
            cases hq0 : q (s[0].toNat : Nat) with
            | false =>
              replace hq0 := Lib.hid hq0
              clear hq ha
              go_wp2_with fail
              refine (hf.out.2 _ _ false hq0.out).mono ?_
              rintro e w' ⟨rfl, rfl⟩
              go_wp2_with fail
              go_ret
              exact ⟨rfl, below_alloc _ _⟩
            | true =>
              replace hq0 := Lib.hid hq0
              clear hq ha
              go_wp2_with fail
              refine (hf.out.2 _ _ true hq0.out).mono ?_
              rintro e w' ⟨rfl, rfl⟩
              go_wp2_with (go_at_call 55; refine (HI.out _ _ false hn.out).mono ?_; rintro e w' ⟨rfl, rfl⟩)
              go_ret
              exact ⟨rfl, below_alloc _ _⟩
          · have e0 : ((pos : Int) == 0) = false := by rw [beq_eq_false_iff_ne]; omega
            clear hq ha hz
            go_wp2_with (go_at_call 55; refine (HI.out _ _ false hn.out).mono ?_; rintro e w' ⟨rfl, rfl⟩)
            go_ret
            exact ⟨rfl, below_alloc _ _⟩
        | true =>
          have HA := Lib.hid (show ∀ k (hk : k < s.size), k < pos + 1 → nam s[k] = true from fun k hk h => by
            by_cases e : k = pos
            · subst e; exact hn
            · exact hall.out k hk (by omega))
          rw [← namR_byte] at hn
          replace hn := Lib.hid hn
          by_cases hz : pos = 0
          · subst hz
            cases hq0 : q (s[0].toNat : Nat) with
            | false =>
              have hP' : P = false := by rw [← hP.out]; exact spelt_head hp hq0
              subst hP'
              replace hq0 := Lib.hid hq0
              clear hq ha
              go_wp2_with fail
              refine (hf.out.2 _ _ false hq0.out).mono ?_
              rintro e w' ⟨rfl, rfl⟩
              go_wp2_with fail
              go_ret
              exact ⟨rfl, below_alloc _ _⟩
            | true =>
              replace hq0 := Lib.hid hq0
              clear hq ha
              go_wp2_with fail
              refine (hf.out.2 _ _ true hq0.out).mono ?_
              rintro e w' ⟨rfl, rfl⟩
              go_wp2_with (go_at_call 55; refine (HI.out _ _ true hn.out).mono ?_; rintro e w' ⟨rfl, rfl⟩)
              go_roundw
              case rel => exact ⟨1, rfl, by omega, fun _ => by first | exact hq0.out | trivial, HA.out⟩
              case measure => simp; omega
          · have e0 : ((pos : Int) == 0) = false := by rw [beq_eq_false_iff_ne]; omega
            have HQ := Lib.hid (hq (by omega))
            clear hq ha
            go_wp2_with (go_at_call 55; refine (HI.out _ _ true hn.out).mono ?_; rintro e w' ⟨rfl, rfl⟩)
            go_roundw
            case rel => exact ⟨pos + 1, rfl, by omega, fun _ => HQ.out, HA.out⟩
            case measure => simp; omega
      · have hnx : ∀ ty, (Instr.next (.pointer (some ⟨w.heap.size, 0, none⟩)) true ty).run Try.prog (w.iter s pos) = _ := fun ty => run_next_any w s pos ty hp
        have hP' : P = false := by rw [← hP.out]; exact spelt_bad hp (nam_high (by omega))
        subst hP'
        obtain ⟨g1, g2⟩ := decode_high s pos hp (by omega)
        have hn := Lib.hid (namR_high (r := ((Utf8.decode s pos).1 : Nat)) (by omega))
        clear hq ha
        generalize (Utf8.decode s pos).1 = r at hnx hn g1
        generalize (Utf8.decode s pos).2 = m at hnx g2
        clear g1 g2
        by_cases hz : pos = 0
        · subst hz
          cases hq0 : q (r : Nat) with
          | false =>
            replace hq0 := Lib.hid hq0
            go_wp2_with fail
            refine (hf.out.2 _ _ false hq0.out).mono ?_
            rintro e w' ⟨rfl, rfl⟩
            go_wp2_with fail
            go_ret
            exact ⟨rfl, below_alloc _ _⟩
          | true =>
            replace hq0 := Lib.hid hq0
            go_wp2_with fail
            refine (hf.out.2 _ _ true hq0.out).mono ?_
            rintro e w' ⟨rfl, rfl⟩
            go_wp2_with (go_at_call 55; refine (HI.out _ _ false hn.out).mono ?_; rintro e w' ⟨rfl, rfl⟩)
            go_ret
            exact ⟨rfl, below_alloc _ _⟩
        · have e0 : ((pos : Int) == 0) = false := by rw [beq_eq_false_iff_ne]; omega
          clear hz
          go_wp2_with (go_at_call 55; refine (HI.out _ _ false hn.out).mono ?_; rintro e w' ⟨rfl, rfl⟩)
          go_ret
          exact ⟨rfl, below_alloc _ _⟩
    · have hnx : ∀ ty, (Instr.next (.pointer (some ⟨w.heap.size, 0, none⟩)) true ty).run Try.prog (w.iter s pos) = _ := fun ty => run_next_end w s pos ty hp
      have hP' : P = true := by rw [← hP.out]; exact spelt_good h0 (hq (by omega)) fun k hk => hall.out k hk (by omega)
      subst hP'
      have e1 : (s.toList == []) = false := by
        rw [ByteArray.toList_eq, beq_eq_false_iff_ne]
        intro e
        rw [← size_list, e] at h0
        simp at h0
      have e2 : (s.toList != []) = true := by rw [bne, e1]; rfl
      have e3 : s.toList.isEmpty = false := by rw [← e1]; cases s.toList <;> rfl
      clear hq
      go_wp2_with fail
      go_ret
      exact ⟨rfl, below_alloc _ _⟩

theorem isSpelt_any (f : FuncId) (q : Int → Bool) (hf : RuneTest f q) (s : ByteArray) (w : World) (P : Bool) (hP : spelt q s.data.toList = P) :
    Calls Try.prog 39 #[.string s, .func (.func f) #[] #[]] w fun e w' => e = .returned (.bool P) ∧ Below w.heap.size w w' := by
  by_cases h0 : 0 < s.size
  · exact isSpelt_core f q (Lib.hid hf) s w h0 P (Lib.hid hP)
  · have := empty_of s h0
    subst this
    have hP' : P = false := by rw [← hP]; rfl
    subst hP'
    exact isSpelt_empty f w

theorem small_test : RuneTest 40 smlR := ⟨by intro args w; simp [go_sem], fun r w p h => isSmall_any r w p h⟩
theorem great_test : RuneTest 43 grtR := ⟨by intro args w; simp [go_sem], fun r w p h => isGreat_any r w p h⟩

/-- A name; a great one. -/
def nameB (l : List UInt8) : Bool := spelt smlR l && !isWord l
def greatB (l : List UInt8) : Bool := spelt grtR l

theorem great_any (s : ByteArray) (w : World) (p : Bool) (hp : greatB s.data.toList = p) : Calls Try.prog 24 #[.string s] w fun e w' => e = .returned (.bool p) ∧ Below w.heap.size w w' := by
  have H := Lib.hid (isSpelt_any 43 grtR great_test s w p hp)
  clear hp
  go_enter Try.func24, Try.ntmps24
  go_wp2_with (go_at_call 39; refine H.out.mono ?_; rintro e w' ⟨rfl, hb⟩; replace hb := Lib.hid hb)
  go_ret
  exact ⟨rfl, hb.out⟩

theorem name_any (s : ByteArray) (w : World) (p : Bool) (hp : nameB s.data.toList = p) : Calls Try.prog 22 #[.string s] w fun e w' => e = .returned (.bool p) ∧ Below w.heap.size w w' := by
  have H := Lib.hid (isSpelt_any 40 smlR small_test s w)
  have HW := Lib.hid (word_at s)
  unfold nameB at hp
  cases h1 : spelt smlR s.data.toList with
  | false =>
    rw [h1, Bool.false_and] at hp
    subst hp
    replace h1 := Lib.hid h1
    go_enter Try.func22, Try.ntmps22
    go_wp2_with (go_at_call 39; refine (H.out false h1.out).mono ?_; rintro e w' ⟨rfl, hb⟩; replace hb := Lib.hid hb)
    go_ret
    exact ⟨rfl, hb.out⟩
  | true =>
    cases h2 : isWord s.data.toList with
    | false =>
      rw [h1, h2] at hp
      subst hp
      replace h1 := Lib.hid h1
      replace h2 := Lib.hid h2
      go_enter Try.func22, Try.ntmps22
      go_wp2_with (first | (go_at_call 39; refine (H.out true h1.out).mono ?_; rintro e w' ⟨rfl, hb⟩; replace hb := Lib.hid hb) | (go_at_call 41; refine (HW.out false h2.out _).mono ?_; rintro e w' ⟨rfl, rfl⟩))
      go_ret
      exact ⟨rfl, hb.out⟩
    | true =>
      rw [h1, h2] at hp
      subst hp
      replace h1 := Lib.hid h1
      replace h2 := Lib.hid h2
      go_enter Try.func22, Try.ntmps22
      go_wp2_with (first | (go_at_call 39; refine (H.out true h1.out).mono ?_; rintro e w' ⟨rfl, hb⟩; replace hb := Lib.hid hb) | (go_at_call 41; refine (HW.out true h2.out _).mono ?_; rintro e w' ⟨rfl, rfl⟩))
      go_ret
      exact ⟨rfl, hb.out⟩

end Go.Proofs.Ytogpfbmkbnooeaa
