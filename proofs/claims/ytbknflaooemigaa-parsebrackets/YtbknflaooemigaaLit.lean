/-
  Literals of bytes as lists: what is written, what is read. No program is spoken of. Conditions: as said.
-/
import Derived.Test.YtbknflaooemigaaBase
namespace Go.Proofs.Ytbknflaooemigaa
set_option linter.unusedVariables false

/-- A digit to the base 16, as it is written. -/
def hx (n : Nat) : UInt8 := if n < 10 then UInt8.ofNat (48 + n) else UInt8.ofNat (87 + n)
/-- What stands for a byte within a literal. -/
def esc (c : UInt8) : List UInt8 :=
  if c = 34 ∨ c = 92 then [92, c] else if c = 10 then [92, 110] else if c = 9 then [92, 116]
  else if c.toNat < 32 ∨ 126 < c.toNat then [92, 120, hx (c.toNat / 16), hx (c.toNat % 16)] else [c]
def body (l : List UInt8) : List UInt8 := l.flatMap esc
def lit (l : List UInt8) : List UInt8 := 34 :: (body l ++ [34])

/-- A digit's worth. -/
def dg (c : UInt8) : Option Nat :=
  if 48 ≤ c.toNat ∧ c.toNat ≤ 57 then some (c.toNat - 48) else if 97 ≤ c.toNat ∧ c.toNat ≤ 102 then some (c.toNat - 87)
  else if 65 ≤ c.toNat ∧ c.toNat ≤ 70 then some (c.toNat - 55) else none
/-- The letter behind a backslash. -/
def bk (c : UInt8) : Option UInt8 := if c = 34 ∨ c = 92 then some c else if c = 110 then some 10 else if c = 116 then some 9 else none
abbrev Rb := UInt8 × Nat × Bool
/-- Two digits (behind a backslash and x). -/
def rd : List UInt8 → Rb
  | [] => (0, 2, false)
  | e :: v => match dg e with
    | none => (0, 2, false)
    | some x => match v with
      | [] => (0, 3, false)
      | f :: _ => match dg f with
        | none => (0, 3, false)
        | some y => (UInt8.ofNat (16 * x + y), 4, true)
/-- The first byte of what is left: the byte, how many bytes, whether it is whole. -/
def rb : List UInt8 → Rb
  | [] => (0, 0, false)
  | c :: t => if c.toNat < 32 ∨ 126 < c.toNat then (0, 0, false) else if c = 92 then (match t with
      | [] => (0, 1, false)
      | d :: u => if d = 120 then rd u else match bk d with
        | none => (0, 1, false)
        | some b => (b, 2, true)) else (c, 1, true)

theorem rd_nil : rd [] = (0, 2, false) := rfl
theorem rd_bad (e : UInt8) (v : List UInt8) (h : dg e = none) : rd (e :: v) = (0, 2, false) := by simp [rd, h]
theorem rd_one (e : UInt8) (x : Nat) (h : dg e = some x) : rd [e] = (0, 3, false) := by simp [rd, h]
theorem rd_bad2 (e f : UInt8) (v : List UInt8) (x : Nat) (h : dg e = some x) (h2 : dg f = none) : rd (e :: f :: v) = (0, 3, false) := by simp [rd, h, h2]
theorem rd_two (e f : UInt8) (v : List UInt8) (x y : Nat) (h : dg e = some x) (h2 : dg f = some y) : rd (e :: f :: v) = (UInt8.ofNat (16 * x + y), 4, true) := by simp [rd, h, h2]
theorem rb_nil : rb [] = (0, 0, false) := rfl
theorem rb_out (c : UInt8) (t : List UInt8) (h : c.toNat < 32 ∨ 126 < c.toNat) : rb (c :: t) = (0, 0, false) := by
  rw [rb.eq_def]; exact if_pos h
theorem rb_plain (c : UInt8) (t : List UInt8) (h : ¬ (c.toNat < 32 ∨ 126 < c.toNat)) (h2 : c ≠ 92) : rb (c :: t) = (c, 1, true) := by
  rw [rb.eq_def]; exact (if_neg h).trans (if_neg h2)
theorem rb_end : rb [92] = (0, 1, false) := by decide
theorem rb_x (u : List UInt8) : rb (92 :: 120 :: u) = rd u := by rw [rb, if_neg (by decide), if_pos rfl]; rfl
theorem rb_bk (d : UInt8) (u : List UInt8) (h : d ≠ 120) (b : UInt8) (hb : bk d = some b) : rb (92 :: d :: u) = (b, 2, true) := by
  rw [rb, if_neg (by decide), if_pos rfl]; simp [h, hb]
theorem rb_no (d : UInt8) (u : List UInt8) (h : d ≠ 120) (hb : bk d = none) : rb (92 :: d :: u) = (0, 1, false) := by
  rw [rb, if_neg (by decide), if_pos rfl]; simp [h, hb]

/-- Every way on which a byte is read, or isn't. -/
theorem rb_ok (l : List UInt8) (h : (rb l).2.2 = true) : ∃ p u b, l = p ++ u ∧ 1 ≤ p.length ∧ ∀ m, rb (p ++ m) = (b, p.length, true) := by
  match l with
  | [] => simp [rb_nil] at h
  | c :: t =>
    by_cases h1 : c.toNat < 32 ∨ 126 < c.toNat
    · simp [rb_out c t h1] at h
    · by_cases h2 : c = 92
      · subst h2
        match t with
        | [] => simp [rb_end] at h
        | d :: u =>
          by_cases h3 : d = 120
          · subst h3
            rw [rb_x] at h
            match u with
            | [] => simp [rd_nil] at h
            | e :: v =>
              cases he : dg e with
              | none => simp [rd_bad e v he] at h
              | some x =>
                match v with
                | [] => simp [rd_one e x he] at h
                | f :: v =>
                  cases hf : dg f with
                  | none => simp [rd_bad2 e f v x he hf] at h
                  | some y => exact ⟨[92, 120, e, f], v, _, rfl, by simp, fun m => by
                      show rb (92 :: 120 :: e :: f :: m) = _
                      rw [rb_x, rd_two e f m x y he hf]; rfl⟩
          · cases hb : bk d with
            | none => simp [rb_no d u h3 hb] at h
            | some b => exact ⟨[92, d], u, b, rfl, by simp, fun m => rb_bk d m h3 b hb⟩
      · exact ⟨[c], t, c, rfl, by simp, fun m => rb_plain c m h1 h2⟩

theorem rb_size (l : List UInt8) (h : (rb l).2.2 = true) : 1 ≤ (rb l).2.1 ∧ (rb l).2.1 ≤ l.length := by
  obtain ⟨p, u, b, rfl, h1, h2⟩ := rb_ok l h
  rw [h2]; simp; omega

/-- What a text is read as from its first byte on (behind the first quote): the bytes, how many bytes, whether it is whole. -/
def scan (l : List UInt8) : List UInt8 × Nat × Bool :=
  if l.head? = some 34 then ([], 1, true)
  else if h : (rb l).2.2 = true then
    ((rb l).1 :: (scan (l.drop (rb l).2.1)).1, (rb l).2.1 + (scan (l.drop (rb l).2.1)).2.1, (scan (l.drop (rb l).2.1)).2.2)
  else ([], (rb l).2.1, false)
termination_by l.length
decreasing_by all_goals (have := rb_size l h; simp; omega)

/-- The bytes of what stands between the quotes. -/
def unq (l : List UInt8) : List UInt8 :=
  if h : (rb l).2.2 = true then (rb l).1 :: unq (l.drop (rb l).2.1) else []
termination_by l.length
decreasing_by (have := rb_size l h; simp; omega)

def readOf (l : List UInt8) : List UInt8 × Nat × Bool :=
  if l.head? = some 34 then ((scan l.tail).1, 1 + (scan l.tail).2.1, (scan l.tail).2.2) else ([], 0, false)

theorem scan_quote (l : List UInt8) (h : l.head? = some 34) : scan l = ([], 1, true) := by rw [scan, if_pos h]
theorem scan_bad (l : List UInt8) (h : ¬ l.head? = some 34) (h2 : (rb l).2.2 = false) : scan l = ([], (rb l).2.1, false) := by
  rw [scan, if_neg h, dif_neg (by simp [h2])]
theorem scan_step (l : List UInt8) (h : ¬ l.head? = some 34) (h2 : (rb l).2.2 = true) : scan l =
    ((rb l).1 :: (scan (l.drop (rb l).2.1)).1, (rb l).2.1 + (scan (l.drop (rb l).2.1)).2.1, (scan (l.drop (rb l).2.1)).2.2) := by
  rw [scan, if_neg h, dif_pos h2]

theorem rb_app (l m : List UInt8) (h : (rb l).2.2 = true) : rb (l ++ m) = rb l := by
  obtain ⟨p, u, b, rfl, h1, h2⟩ := rb_ok l h
  rw [List.append_assoc, h2, h2]

theorem rb_takeN (l : List UInt8) (h : (rb l).2.2 = true) (n : Nat) (hn : (rb l).2.1 ≤ n) : rb (l.take n) = rb l := by
  obtain ⟨p, u, b, rfl, h1, h2⟩ := rb_ok l h
  rw [h2] at hn ⊢
  simp only at hn
  rw [List.take_append, List.take_of_length_le hn, h2]

/-- Between the quotes stands what the scan reads. -/
theorem unq_scan (n : Nat) : ∀ l : List UInt8, l.length ≤ n → (scan l).2.2 = true → 1 ≤ (scan l).2.1 ∧ (scan l).2.1 ≤ l.length ∧ unq (l.take ((scan l).2.1 - 1)) = (scan l).1 := by
  induction n with
  | zero =>
    intro l hl h
    obtain rfl : l = [] := List.eq_nil_of_length_eq_zero (by omega)
    simp [scan, rb] at h
  | succ n ih =>
    intro l hl h
    by_cases hq : l.head? = some 34
    · rw [scan_quote l hq]
      refine ⟨Nat.le_refl _, ?_, ?_⟩
      · cases l with
        | nil => simp at hq
        | cons => simp
      · rw [unq]; simp [rb]
    · by_cases hb : (rb l).2.2 = true
      · have hs := scan_step l hq hb
        have hz := rb_size l hb
        obtain ⟨h1, h2, h3⟩ := ih (l.drop (rb l).2.1) (by simp; omega) (by rw [hs] at h; exact h)
        rw [hs]
        simp only [List.length_drop] at h2
        refine ⟨by simp; omega, by simp; omega, ?_⟩
        have ht := rb_takeN l hb ((rb l).2.1 + (scan (l.drop (rb l).2.1)).2.1 - 1) (by omega)
        rw [unq]
        simp only [ht, hb, dif_pos]
        rw [← h3, List.drop_take]
        simp only [List.cons.injEq, true_and]
        congr 2
        omega
      · rw [scan_bad l hq (by simpa using hb)] at h
        simp at h

theorem esc_fact : ∀ n : Fin 256, let c := UInt8.ofNat n.val; rb (esc c) = (c, (esc c).length, true) ∧ (esc c).head? ≠ some 34 ∧ 1 ≤ (esc c).length ∧ (esc c).length ≤ 4 ∧
    ∀ i : Fin 4, i.val < (esc c).length → (rb ((esc c).take i.val)).2 = (i.val, false) ∧ ((esc c).take i.val).head? ≠ some 34 := by
  decide +kernel

theorem esc_all (c : UInt8) : rb (esc c) = (c, (esc c).length, true) ∧ (esc c).head? ≠ some 34 ∧ 1 ≤ (esc c).length ∧ (esc c).length ≤ 4 ∧
    ∀ i, i < (esc c).length → (rb ((esc c).take i)).2 = (i, false) ∧ ((esc c).take i).head? ≠ some 34 := by
  have h := esc_fact ⟨c.toNat, c.toNat_lt⟩
  simp only [UInt8.ofNat_toNat] at h
  obtain ⟨h1, h2, h3, h4, h5⟩ := h
  exact ⟨h1, h2, h3, h4, fun i hi => h5 ⟨i, by omega⟩ hi⟩

theorem head_app {l m : List UInt8} (h : 1 ≤ l.length) : (l ++ m).head? = l.head? := by
  cases l with
  | nil => simp at h
  | cons => rfl

theorem scan_esc (c : UInt8) (m : List UInt8) : scan (esc c ++ m) = (c :: (scan m).1, (esc c).length + (scan m).2.1, (scan m).2.2) := by
  obtain ⟨h1, h2, h3, h4, h5⟩ := esc_all c
  have hr : rb (esc c ++ m) = (c, (esc c).length, true) := by rw [rb_app _ _ (by rw [h1]), h1]
  rw [scan_step _ (by rw [head_app h3]; exact h2) (by rw [hr]), hr]
  simp

theorem scan_body (l more : List UInt8) : scan (body l ++ 34 :: more) = (l, (body l).length + 1, true) := by
  induction l with
  | nil => exact scan_quote _ rfl
  | cons c t ih =>
    have : body (c :: t) = esc c ++ body t := by simp [body]
    rw [this, List.append_assoc, scan_esc, ih]
    simp; omega

theorem scan_part (l : List UInt8) : ∀ i, i ≤ (body l).length → (scan ((body l).take i)).2 = (i, false) := by
  induction l with
  | nil => intro i hi; simp [body] at hi; subst hi; simp [body, scan, rb]
  | cons c t ih =>
    intro i hi
    have e : body (c :: t) = esc c ++ body t := by simp [body]
    obtain ⟨h1, h2, h3, h4, h5⟩ := esc_all c
    rw [e] at hi ⊢
    simp only [List.length_append] at hi
    by_cases hlt : i < (esc c).length
    · obtain ⟨h6, h7⟩ := h5 i hlt
      rw [List.take_append_of_le_length (by omega), scan_bad _ h7 (by rw [h6]), h6]
    · have : (esc c ++ body t).take i = esc c ++ (body t).take (i - (esc c).length) := by
        rw [List.take_append, List.take_of_length_le (by omega)]
      have h8 := ih (i - (esc c).length) (by omega)
      rw [this, scan_esc, h8]
      simp; omega

theorem read_lit (l more : List UInt8) : readOf (lit l ++ more) = (l, (lit l).length, true) := by
  unfold readOf lit
  simp only [List.cons_append, List.head?_cons, if_true, List.tail_cons, List.append_assoc, List.nil_append]
  rw [scan_body]
  simp; omega

theorem read_part (l : List UInt8) (i : Nat) (h : i < (lit l).length) : (readOf ((lit l).take i)).2 = (i, false) := by
  unfold readOf lit at *
  cases i with
  | zero => simp
  | succ i =>
    simp only [List.length_cons, List.length_append, List.length_nil] at h
    simp only [List.take_succ_cons, List.head?_cons, if_true, List.tail_cons]
    rw [List.take_append_of_le_length (by omega)]
    have := scan_part l i (by omega)
    rw [this]
    simp; omega

theorem body_len (l : List UInt8) : (body l).length ≤ 4 * l.length := by
  induction l with
  | nil => simp [body]
  | cons c t ih =>
    have e : body (c :: t) = esc c ++ body t := by simp [body]
    have := (esc_all c).2.2.2.1
    rw [e]; simp; omega

theorem lit_len (l : List UInt8) : (lit l).length = (body l).length + 2 := by simp [lit]

theorem body_app (l m : List UInt8) : body (l ++ m) = body l ++ body m := by simp [body]

theorem body_snoc (l : List UInt8) (c : UInt8) : body (l ++ [c]) = body l ++ esc c := by simp [body]

/-- What a whole literal that is nothing else is read as. -/
theorem unq_read (l : List UInt8) (h : (readOf l).2.2 = true) : 2 ≤ (readOf l).2.1 ∧ (readOf l).2.1 ≤ l.length ∧ unq ((l.drop 1).take ((readOf l).2.1 - 2)) = (readOf l).1 := by
  unfold readOf at *
  split at h
  · rename_i hq
    obtain ⟨h1, h2, h3⟩ := unq_scan _ l.tail (Nat.le_refl _) h
    rw [if_pos hq]
    simp only [List.length_tail] at h2
    refine ⟨by simp; omega, by simp; omega, ?_⟩
    rw [← h3, List.drop_one]
    simp only
    congr 2
    omega
  · simp at h

end Go.Proofs.Ytbknflaooemigaa
