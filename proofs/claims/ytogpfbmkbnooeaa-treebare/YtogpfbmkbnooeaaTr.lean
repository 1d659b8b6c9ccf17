/-
  Rows of sizes as trees: children one behind the other, whose child a place is. No function of the program is spoken of. Conditions: as said.
-/
import Derived.Test.YtogpfbmkbnooeaaNd
namespace Go.Proofs.Ytogpfbmkbnooeaa
set_option linter.unusedVariables false

/-- The places of the trees that stand one behind the other from k up to stop; none: they do not end there. -/
def chain (S : Nat → Int) (stop k : Nat) : Option (List Nat) :=
  if h : k < stop then
    if S k < 0 ∨ (stop : Int) - 1 - k < S k then none else (chain S stop (k + 1 + (S k).toNat)).map (k :: ·)
  else some []
termination_by stop - k
decreasing_by omega

theorem chain_end {S : Nat → Int} {stop k : Nat} (h : ¬ k < stop) : chain S stop k = some [] := by rw [chain, dif_neg h]
theorem chain_bad {S : Nat → Int} {stop k : Nat} (h : k < stop) (hb : S k < 0 ∨ (stop : Int) - 1 - k < S k) : chain S stop k = none := by rw [chain, dif_pos h, if_pos hb]
theorem chain_step {S : Nat → Int} {stop k : Nat} (h : k < stop) (hb : ¬ (S k < 0 ∨ (stop : Int) - 1 - k < S k)) : chain S stop k = (chain S stop (k + 1 + (S k).toNat)).map (k :: ·) := by rw [chain, dif_pos h, if_neg hb]

/-- A node that does not go beyond its row, and whose children do not go beyond it. -/
structure Ok (S : Nat → Int) (n j : Nat) : Prop where
  low : 0 ≤ S j
  high : j + S j ≤ (n : Int) - 1
  kids : (chain S (j + 1 + (S j).toNat) (j + 1)).isSome = true

/-- A node's children. -/
def kidsOf (S : Nat → Int) (j : Nat) : List Nat := (chain S (j + 1 + (S j).toNat) (j + 1)).getD []

/-- One tree. -/
structure Right (S : Nat → Int) (n : Nat) : Prop where
  pos : 0 < n
  all : S 0 = (n : Int) - 1
  ok : ∀ j, j < n → Ok S n j

theorem chain_mem {S : Nat → Int} {stop : Nat} : ∀ {d k : Nat}, stop - k ≤ d → ∀ {l : List Nat}, chain S stop k = some l → ∀ x, x ∈ l → k ≤ x ∧ x < stop ∧ 0 ≤ S x ∧ x + S x ≤ (stop : Int) - 1 := by
  intro d
  induction d with
  | zero =>
    intro k hd l h x hx
    rw [chain_end (by omega)] at h
    cases h; cases hx
  | succ d ih =>
    intro k hd l h x hx
    by_cases hk : k < stop
    · by_cases hb : S k < 0 ∨ (stop : Int) - 1 - k < S k
      · rw [chain_bad hk hb] at h; cases h
      · rw [chain_step hk hb] at h
        obtain ⟨m, hm, rfl⟩ := Option.map_eq_some_iff.1 h
        rcases List.mem_cons.1 hx with rfl | hx
        · omega
        · have := ih (by omega) hm x hx
          omega
    · rw [chain_end hk] at h
      cases h; cases hx

/-- Whatever stands between is in one of them. -/
theorem chain_cover {S : Nat → Int} {stop : Nat} : ∀ {d k : Nat}, stop - k ≤ d → ∀ {l : List Nat}, chain S stop k = some l → ∀ y, k ≤ y → y < stop → ∃ x, x ∈ l ∧ x ≤ y ∧ (y : Int) ≤ x + S x := by
  intro d
  induction d with
  | zero => intro k hd l h y h1 h2; omega
  | succ d ih =>
    intro k hd l h y h1 h2
    have hk : k < stop := by omega
    by_cases hb : S k < 0 ∨ (stop : Int) - 1 - k < S k
    · rw [chain_bad hk hb] at h; cases h
    · rw [chain_step hk hb] at h
      obtain ⟨m, hm, rfl⟩ := Option.map_eq_some_iff.1 h
      by_cases hy : y < k + 1 + (S k).toNat
      · exact ⟨k, by simp, h1, by omega⟩
      · obtain ⟨x, hx, hx1, hx2⟩ := ih (by omega) hm y (by omega) h2
        exact ⟨x, by simp [hx], hx1, hx2⟩

/-- They stand apart: none is within another. -/
theorem chain_apart {S : Nat → Int} {stop : Nat} : ∀ {d k : Nat}, stop - k ≤ d → ∀ {l : List Nat}, chain S stop k = some l → ∀ x y, x ∈ l → y ∈ l → x < y → x + S x < (y : Int) := by
  intro d
  induction d with
  | zero =>
    intro k hd l h x y hx
    rw [chain_end (by omega)] at h
    cases h; cases hx
  | succ d ih =>
    intro k hd l h x y hx hy hxy
    by_cases hk : k < stop
    · by_cases hb : S k < 0 ∨ (stop : Int) - 1 - k < S k
      · rw [chain_bad hk hb] at h; cases h
      · rw [chain_step hk hb] at h
        obtain ⟨m, hm, rfl⟩ := Option.map_eq_some_iff.1 h
        rcases List.mem_cons.1 hx with rfl | hx
        · rcases List.mem_cons.1 hy with rfl | hy
          · omega
          · have := chain_mem (Nat.le_refl _) hm y hy
            omega
        · rcases List.mem_cons.1 hy with rfl | hy
          · have := chain_mem (Nat.le_refl _) hm x (by assumption)
            omega
          · exact ih (by omega) hm x y hx hy hxy
    · rw [chain_end hk] at h
      cases h; cases hx

theorem kids_some {S : Nat → Int} {n j : Nat} (h : Ok S n j) : chain S (j + 1 + (S j).toNat) (j + 1) = some (kidsOf S j) := by
  have := h.kids
  unfold kidsOf
  cases hc : chain S (j + 1 + (S j).toNat) (j + 1) with
  | none => rw [hc] at this; cases this
  | some l => rfl

/-- The node whose child a place is: the last one ahead of it that reaches so far. -/
def upTo (S : Nat → Int) (y : Nat) : Nat → Int
  | 0 => -1
  | j + 1 => if (y : Int) - j ≤ S j then j else upTo S y j
def upOf (S : Nat → Int) (y : Nat) : Int := upTo S y y

theorem upTo_some {S : Nat → Int} {y : Nat} : ∀ {m : Nat} {i : Nat}, upTo S y m = i → i < m ∧ (y : Int) - i ≤ S i ∧ ∀ k, i < k → k < m → ¬ (y : Int) - k ≤ S k := by
  intro m
  induction m with
  | zero => intro i h; simp [upTo] at h
  | succ m ih =>
    intro i h
    rw [upTo] at h
    split at h
    · rename_i hc
      have : m = i := by omega
      subst this
      exact ⟨by omega, hc, fun k h1 h2 => by omega⟩
    · rename_i hc
      obtain ⟨a, b, c⟩ := ih h
      refine ⟨by omega, b, fun k h1 h2 => ?_⟩
      by_cases e : k = m
      · subst e; exact hc
      · exact c k h1 (by omega)

theorem upTo_of {S : Nat → Int} {y : Nat} : ∀ {m i : Nat}, i < m → (y : Int) - i ≤ S i → (∀ k, i < k → k < m → ¬ (y : Int) - k ≤ S k) → upTo S y m = i := by
  intro m
  induction m with
  | zero => intro i h; omega
  | succ m ih =>
    intro i h h1 h2
    rw [upTo]
    by_cases e : i = m
    · subst e; rw [if_pos h1]
    · rw [if_neg (h2 m (by omega) (by omega))]
      exact ih (by omega) h1 fun k a b => h2 k a (by omega)

theorem upTo_cases (S : Nat → Int) (y m : Nat) : upTo S y m = -1 ∨ ∃ i : Nat, upTo S y m = i := by
  induction m with
  | zero => exact .inl rfl
  | succ m ih =>
    rw [upTo]
    split
    · exact .inr ⟨m, rfl⟩
    · exact ih

theorem upTo_none {S : Nat → Int} {y : Nat} : ∀ {m : Nat}, upTo S y m = -1 → ∀ k, k < m → ¬ (y : Int) - k ≤ S k := by
  intro m
  induction m with
  | zero => intro _ k hk; omega
  | succ m ih =>
    intro h k hk
    rw [upTo] at h
    split at h
    · omega
    · rename_i hc
      by_cases e : k = m
      · subst e; exact hc
      · exact ih h k (by omega)

/-- Where all ahead of a place are well, the place is a child of one of them, and does not go beyond its row. -/
theorem sure {S : Nat → Int} {n y : Nat} (hall : S 0 = (n : Int) - 1) (hy0 : 0 < y) (hy : y < n) (hok : ∀ j, j < y → Ok S n j) : ∃ j : Nat, upOf S y = j ∧ j < y ∧ y ∈ kidsOf S j ∧ 0 ≤ S y ∧ y + S y ≤ j + S j := by
  have hex : ∃ j : Nat, upOf S y = j := by
    rcases upTo_cases S y y with h | h
    · have := upTo_none h 0 hy0
      omega
    · exact h
  obtain ⟨j, hj⟩ := hex
  obtain ⟨a, b, c⟩ := upTo_some hj
  have ok := hok j a
  have hk := kids_some ok
  have hl := ok.low
  obtain ⟨x, hx, hx1, hx2⟩ := chain_cover (Nat.le_refl _) hk y (by omega) (by omega)
  have hm := chain_mem (Nat.le_refl _) hk x hx
  by_cases e : x = y
  · subst e
    exact ⟨j, hj, a, hx, hm.2.2.1, by omega⟩
  · exact absurd (by omega) (c x (by omega) (by omega))

theorem sure_high {S : Nat → Int} {n y : Nat} (hall : S 0 = (n : Int) - 1) (hy : y < n) (hok : ∀ j, j < y → Ok S n j) : 0 ≤ S y ∧ y + S y ≤ (n : Int) - 1 := by
  by_cases h0 : 0 < y
  · obtain ⟨j, _, h1, _, h2, h3⟩ := sure hall h0 hy hok
    have := (hok j h1).high
    exact ⟨h2, by omega⟩
  · obtain rfl : y = 0 := by omega
    omega

/-- Of one tree: a place is a child of just the one that it is a child of. -/
theorem Right.kid_iff {S : Nat → Int} {n : Nat} (h : Right S n) {i y : Nat} (hi : i < n) (hy : y < n) : y ∈ kidsOf S i ↔ upOf S y = i := by
  constructor
  · intro hm
    have hk := kids_some (h.ok i hi)
    have hl := (h.ok i hi).low
    have hr := chain_mem (Nat.le_refl _) hk y hm
    refine upTo_of (by omega) (by omega) fun k h1 h2 h3 => ?_
    obtain ⟨x, hx, hx1, hx2⟩ := chain_cover (Nat.le_refl _) hk k (by omega) (by omega)
    have hne : x < y := by omega
    have := chain_apart (Nat.le_refl _) hk x y hx hm hne
    -- k is within x, and reaches y, which is behind x
    have ok := h.ok k (by omega)
    have key : ∀ d x, k - x ≤ d → x ≤ k → x < n → (k : Int) ≤ x + S x → k + S k ≤ x + S x := by
      intro d
      induction d with
      | zero => intro x h4 h5 h6 h7; have : x = k := by omega
                subst this; exact Int.le_refl _
      | succ d ih =>
        intro x h4 h5 h6 h7
        by_cases e : x = k
        · subst e; exact Int.le_refl _
        · have okx := h.ok x h6
          have lx := okx.low
          have hkx := kids_some okx
          obtain ⟨z, hz, hz1, hz2⟩ := chain_cover (Nat.le_refl _) hkx k (by omega) (by omega)
          have hzm := chain_mem (Nat.le_refl _) hkx z hz
          have := ih z (by omega) hz1 (by omega) hz2
          omega
    have := key _ x (Nat.le_refl _) hx1 (by omega) hx2
    omega
  · intro hu
    obtain ⟨a, b, c⟩ := upTo_some hu
    obtain ⟨j, hj, _, hm, _⟩ := sure h.all (by omega) hy fun j hj => h.ok j (by omega)
    have : j = i := by omega
    subst this; exact hm

theorem Right.up_some {S : Nat → Int} {n : Nat} (h : Right S n) {y : Nat} (h0 : 0 < y) (hy : y < n) : ∃ j : Nat, upOf S y = j ∧ j < y := by
  obtain ⟨j, hj, h1, _⟩ := sure h.all h0 hy fun j hj => h.ok j (by omega)
  exact ⟨j, hj, h1⟩

theorem up_zero (S : Nat → Int) : upOf S 0 = -1 := rfl

theorem Right.kid_lt {S : Nat → Int} {n : Nat} (h : Right S n) {i y : Nat} (hi : i < n) (hm : y ∈ kidsOf S i) : i < y ∧ y < n := by
  have hk := kids_some (h.ok i hi)
  have hr := chain_mem (Nat.le_refl _) hk y hm
  have := (h.ok i hi).high
  have := (h.ok i hi).low
  omega

/-- All of a tree is well. -/
def Whole (S : Nat → Int) (n k : Nat) : Prop := 0 ≤ S k ∧ k + S k ≤ (n : Int) - 1 ∧ ∀ j : Nat, k ≤ j → (j : Int) ≤ k + S k → Ok S n j

theorem whole_right {S : Nat → Int} {n : Nat} : Right S n ↔ 0 < n ∧ Whole S n 0 ∧ 1 + S 0 = n := by
  constructor
  · intro h
    have := h.all
    have := h.pos
    exact ⟨h.pos, ⟨by omega, by omega, fun j _ hj => h.ok j (by omega)⟩, by omega⟩
  · rintro ⟨h1, ⟨h2, h3, h4⟩, h5⟩
    exact ⟨h1, by omega, fun j hj => h4 j (by omega) (by omega)⟩

/-- Every child of a whole tree is whole. -/
theorem Whole.kid {S : Nat → Int} {n k x : Nat} (h : Whole S n k) (hx : x ∈ kidsOf S k) : Whole S n x := by
  obtain ⟨h1, h2, h3⟩ := h
  have hk := kids_some (h3 k (Nat.le_refl _) (by omega))
  have hm := chain_mem (Nat.le_refl _) hk x hx
  exact ⟨hm.2.2.1, by omega, fun j a b => h3 j (by omega) (by omega)⟩

theorem whole_of {S : Nat → Int} {n k : Nat} (h1 : 0 ≤ S k) (h2 : k + S k ≤ (n : Int) - 1) {l : List Nat} (hk : chain S (k + 1 + (S k).toNat) (k + 1) = some l) (hw : ∀ x, x ∈ l → Whole S n x) : Whole S n k := by
  refine ⟨h1, h2, fun j a b => ?_⟩
  by_cases e : j = k
  · subst e; exact ⟨h1, h2, by rw [hk]; rfl⟩
  · obtain ⟨x, hx, hx1, hx2⟩ := chain_cover (Nat.le_refl _) hk j (by omega) (by omega)
    exact (hw x hx).2.2 j hx1 hx2

/-- As far as it has been gone through. -/
def Gone (S : Nat → Int) (n at_ k : Nat) : Prop := ∃ l : List Nat, (∀ x, x ∈ l → Whole S n x) ∧ at_ + 1 ≤ k ∧ chain S (at_ + 1 + (S at_).toNat) (at_ + 1) = (chain S (at_ + 1 + (S at_).toNat) k).map (l ++ ·)

theorem Gone.start (S : Nat → Int) (n at_ : Nat) : Gone S n at_ (at_ + 1) := ⟨[], by simp, Nat.le_refl _, by simp⟩

theorem Gone.step {S : Nat → Int} {n at_ k : Nat} (h : Gone S n at_ k) (h1 : k < at_ + 1 + (S at_).toNat) (hw : Whole S n k) (hb : ¬ (((at_ + 1 + (S at_).toNat : Nat) : Int) - 1 - k < S k)) : Gone S n at_ (k + 1 + (S k).toNat) := by
  obtain ⟨l, h2, h3, h4⟩ := h
  refine ⟨l ++ [k], ?_, by omega, ?_⟩
  · intro x hx
    rcases List.mem_append.1 hx with hx | hx
    · exact h2 x hx
    · obtain rfl : x = k := by simpa using hx
      exact hw
  · rw [h4, chain_step h1 (by have := hw.1; omega)]
    cases chain S (at_ + 1 + (S at_).toNat) (k + 1 + (S k).toNat) <;> simp

theorem Gone.done {S : Nat → Int} {n at_ k : Nat} (h : Gone S n at_ k) (h1 : 0 ≤ S at_) (h2 : at_ + S at_ ≤ (n : Int) - 1) (hk : k = at_ + 1 + (S at_).toNat) : Whole S n at_ := by
  obtain ⟨l, h3, h4, h5⟩ := h
  rw [chain_end (k := k) (by omega)] at h5
  exact whole_of h1 h2 (l := l) (by simpa using h5) h3

theorem Gone.kid {S : Nat → Int} {n at_ k : Nat} (h : Gone S n at_ k) (hw : Whole S n at_) (h1 : k < at_ + 1 + (S at_).toNat) : Whole S n k ∧ ¬ (((at_ + 1 + (S at_).toNat : Nat) : Int) - 1 - k < S k) := by
  obtain ⟨l, h3, h4, h5⟩ := h
  have ok := hw.2.2 at_ (Nat.le_refl _) (by have := hw.1; omega)
  have hk := kids_some ok
  rw [h5] at hk
  by_cases hb : S k < 0 ∨ ((at_ + 1 + (S at_).toNat : Nat) : Int) - 1 - k < S k
  · rw [chain_bad h1 hb] at hk; cases hk
  · refine ⟨?_, by omega⟩
    rw [chain_step h1 hb] at hk
    refine hw.kid (x := k) ?_
    cases hc : chain S (at_ + 1 + (S at_).toNat) (k + 1 + (S k).toNat) with
    | none => rw [hc] at hk; cases hk
    | some m => rw [hc] at hk; simp at hk; rw [← hk]; simp

end Go.Proofs.Ytogpfbmkbnooeaa
