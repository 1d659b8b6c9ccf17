/-
  What both sides answer, plainly: texts, lists and records laid; what is looked at. Conditions: as said.
-/
import Derived.Test.YtfeeikajekemlaaDf
import Derived.Test.YtfeeikajekemlaaDd
import Derived.Test.YtfeeikajekemlaaDg
import Derived.Test.YtfeeikajekemlaaDh
import Derived.Test.YtfeeikajekemlaaDi
import Derived.Test.YtfeeikajekemlaaWd
import Derived.Test.YtfeeikajekemlaaWj
import Derived.Test.YtfeeikajekemlaaWl
import Derived.Test.YtfeeikajekemlaaWm
namespace Go.Proofs.Ytfeeikajekemlaa
open Go.RowKit
set_option linter.unusedVariables false
set_option linter.unusedSimpArgs false

structure Ans where
  v : Vl
  b : Bool
  m : M
def addA (room : Nat) (m : M) (o : Ob) : Ans := ⟨addV room m o, addB room m o, addN room m o⟩
def strA (room : Nat) (m : M) (s : ByteArray) : Ans := if s.size = 0 then ⟨⟨3, 0, 0, 0⟩, true, m⟩ else addA room m (strO s)
def listA (room : Nat) (m : M) (f n : Int) (z : Vl) : Ans := if f < 0 ∨ n < 0 then ⟨v0, false, m⟩ else addA room m (listO f n.toNat z)
def recA (room : Nat) (m : M) (f : Int) (l : List Vl) : Ans := if f < 0 then ⟨v0, false, m⟩ else addA room m (recO f l)

theorem addA_yes {room : Nat} {m : M} {o : Ob} (h : addB room m o = true) : addA room m o = ⟨mkV m o, true, mkM m o⟩ := by unfold addA addV addN; rw [h]; simp
theorem addA_no {room : Nat} {m : M} {o : Ob} (h : addB room m o = false) : addA room m o = ⟨v0, false, m⟩ := by unfold addA addV addN; rw [h]; simp

def AnsP (w : World) (own : Owns) (k p room : Nat) (A : Ans) (e : Ending) (w' : World) : Prop := e = .returned (.tuple #[vlV A.v, .bool A.b]) ∧ MadeP w own k p room A.m w'

section
variable {w : World} {own : Owns} {k p room : Nat} {m : M}
theorem strp_any (h : Hp w own k p room m) (fz : Fz w own) (s : ByteArray) (hs : s.size ≤ 100000) : Calls Try.prog 23 #[.pointer (some ⟨p, 0, none⟩), .string s] w (AnsP w own k p room (strA room m s)) := by
  by_cases h0 : s.size = 0
  · obtain rfl : s = { data := #[] } := empty_of s (by omega)
    refine (str_empty p w).mono ?_
    rintro e w' ⟨rfl, hb⟩
    exact ⟨rfl, made_below h fz hb⟩
  · unfold strA; rw [if_neg h0]
    cases hb : addB room m (strO s) with
    | true => rw [addA_yes hb]; exact str_ok h fz s hs (by omega) hb
    | false =>
      rw [addA_no hb]
      refine (str_full h fz s hs (by omega) hb).mono ?_
      rintro e w' ⟨rfl, hb⟩
      exact ⟨rfl, made_below h fz hb⟩
theorem listp_any (h : Hp w own k p room m) (fz : Fz w own) (f n : Int) (z : Vl) : Calls Try.prog 24 #[.pointer (some ⟨p, 0, none⟩), .int .i64 f, .int .i64 n, vlV z] w (AnsP w own k p room (listA room m f n z)) := by
  by_cases hf : f < 0
  · unfold listA; rw [if_pos (.inl hf)]
    exact (list_bad1 _ f n z hf).mono fun e w' ⟨a, b⟩ => ⟨a, made_below h fz b⟩
  · by_cases hn : n < 0
    · unfold listA; rw [if_pos (.inr hn)]
      exact (list_bad2 _ f n z hf hn).mono fun e w' ⟨a, b⟩ => ⟨a, made_below h fz b⟩
    · obtain ⟨N, rfl⟩ : ∃ N : Nat, n = N := ⟨n.toNat, by omega⟩
      unfold listA; rw [if_neg (by omega)]
      rw [Int.toNat_natCast]
      cases hb : addB room m (listO f N z) with
      | true => rw [addA_yes hb]; exact list_ok h fz f N z hf hb
      | false => rw [addA_no hb]; exact (list_full h fz f N z hf hb).mono fun e w' ⟨a, b⟩ => ⟨a, made_below h fz b⟩
theorem recp_any (h : Hp w own k p room m) (fz : Fz w own) (f : Int) (a : Option Addr) (n c : Nat) (l : List Vl) (hl : l.length = n) (hz : a = none → n = 0 ∧ c = 0) (hr : RV (fun _ => True) w a l) : Calls Try.prog 25 #[.pointer (some ⟨p, 0, none⟩), .int .i64 f, .slice a n c] w (AnsP w own k p room (recA room m f l)) := by
  by_cases hf : f < 0
  · unfold recA; rw [if_pos hf]
    exact (rec_bad _ f _ hf).mono fun e w' ⟨x, y⟩ => ⟨x, made_below h fz y⟩
  · unfold recA; rw [if_neg hf]
    cases hb : addB room m (recO f l) with
    | true => rw [addA_yes hb]; exact rec_ok h fz f a n c l hl hz hr hf hb
    | false => rw [addA_no hb]; exact (rec_full h fz f a n c l hl hz hr hf hb).mono fun e w' ⟨x, y⟩ => ⟨x, made_below h fz y⟩
end

section
variable {P : Nat → Prop} {w : World} {a : Option Addr} {N c room : Nat} {m : M}
theorem strd_any (h : RL P w a N c m.L) (hP : ∀ b, w.heap.size ≤ b → P b) (hok : OkM room m) (hR : room ≤ 65536) (s : ByteArray) (hs : s.size ≤ 100000) :
    Calls Try.prog 28 #[.agg #[.int .i64 room, .int .i64 (m.cells : Nat), .slice a N c], .string s] w (AddD P w room (strA room m s).m (strA room m s).v (strA room m s).b) := by
  by_cases h0 : s.size = 0
  · obtain rfl : s = { data := #[] } := empty_of s (by omega)
    exact strd_0 h
  · unfold strA; rw [if_neg h0]
    exact strd_1 h hP hok hR s hs (by omega)
theorem listd_any (h : RL P w a N c m.L) (hP : ∀ b, w.heap.size ≤ b → P b) (hok : OkM room m) (hR : room ≤ 65536) (f n : Int) (z : Vl) :
    Calls Try.prog 29 #[.agg #[.int .i64 room, .int .i64 (m.cells : Nat), .slice a N c], .int .i64 f, .int .i64 n, vlV z] w (AddD P w room (listA room m f n z).m (listA room m f n z).v (listA room m f n z).b) := by
  obtain ⟨kz, nz, rz, iz⟩ := z
  by_cases hf : f < 0
  · unfold listA; rw [if_pos (.inl hf)]
    exact listd_0 h f n kz nz rz iz hf
  · by_cases hn : n < 0
    · unfold listA; rw [if_pos (.inr hn)]
      exact listd_2 h f n kz nz rz iz hf hn
    · obtain ⟨M, rfl⟩ : ∃ M : Nat, n = M := ⟨n.toNat, by omega⟩
      unfold listA; rw [if_neg (by omega)]
      rw [Int.toNat_natCast]
      by_cases hm : M ≤ 65536
      · exact listd_1 h hP hok hR f M kz nz rz iz hf hm
      · have hb : addB room m (listO f M ⟨kz, nz, rz, iz⟩) = false := by
          unfold addB
          simp [cost, listO]
          omega
        rw [addA_no hb]
        exact listd_3 h f M kz nz rz iz hf hn (by omega)
theorem recd_any (h : RL P w a N c m.L) (hP : ∀ b, w.heap.size ≤ b → P b) (hok : OkM room m) (hR : room ≤ 65536) (f : Int) (b : Option Addr) (n d : Nat) (l : List Vl) (hl : l.length = n) (hz : b = none → n = 0 ∧ d = 0) (hr : RV (fun _ => True) w b l) (hn : n ≤ 100000) :
    Calls Try.prog 30 #[.agg #[.int .i64 room, .int .i64 (m.cells : Nat), .slice a N c], .int .i64 f, .slice b n d] w (AddD P w room (recA room m f l).m (recA room m f l).v (recA room m f l).b) := by
  by_cases hf : f < 0
  · unfold recA; rw [if_pos hf]
    exact recd_0 h f _ hf
  · unfold recA; rw [if_neg hf]
    exact recd_1 h hP hok hR f b n d l hf hl hz hr hn
end

/-! ### Looks -/
theorem tx_same {room : Nat} {m : M} (h : OkM room m) (v : Vl) : (meant m.L v).text = txS m.L v ∧ ((meant m.L v).kind == 3) = txB m.L v := by
  by_cases h0 : v.kind = 3 ∧ v.n = 0
  · unfold meant txS txB
    rw [if_pos h0, if_neg (fun e => e.2.1 h0.2)]
    simp [h0.1, h0.2]
  · unfold meant
    rw [if_neg h0]
    by_cases hn : nameB m.L v = true
    · rw [if_pos hn]
      obtain ⟨_, _, hlt, _, hk⟩ := name_parts hn
      have hm := h.may _ (ob_mem hlt)
      by_cases h3 : v.kind = 3
      · have hn0 : v.n ≠ 0 := fun e => h0 ⟨h3, e⟩
        unfold txS txB
        rw [if_pos ⟨h3, hn0, hn⟩, hk, hn]
        simp [h3]
      · unfold txS txB
        rw [if_neg (fun e => h3 e.1), hk]
        unfold mayB at hm
        rw [if_neg (by rw [hk]; exact h3)] at hm
        simp at hm
        refine ⟨?_, by simp [h3]⟩
        have hz := hm.1.2
        first | exact hz | exact empty_of _ (by omega)
    · rw [if_neg hn]
      unfold txS txB
      rw [if_neg (fun e => hn e.2.2)]
      have : nameB m.L v = false := by simpa using hn
      rw [this]
      refine ⟨rfl, ?_⟩
      by_cases h3 : v.kind = 3
      · have hn0 : v.n ≠ 0 := fun e => h0 ⟨h3, e⟩
        simp [ob0, hn0]
      · simp [ob0, h3]
theorem means_tx (L : List Ob) (v : Vl) : meansB L v = (txB L v || nameB L v) := by
  unfold meansB txB
  cases decide (v.kind = 3) <;> cases decide (v.n = 0) <;> cases nameB L v <;> rfl
theorem size_same {room : Nat} {m : M} (h : OkM room m) (v : Vl) : (if meansB m.L v = true then ((meant m.L v).text.size : Int) + (meant m.L v).vals.length else 0) = (szN m.L v : Nat) ∧ (if meansB m.L v = true then (0 : Int) else 3) = (szT m.L v : Nat) := by
  have ht := tx_same h v
  rw [means_tx]
  unfold szN szT
  cases h1 : txB m.L v with
  | true =>
    simp only [Bool.true_or, if_true]
    rw [ht.1]
    refine ⟨?_, rfl⟩
    have hk : (meant m.L v).kind = 3 := by rw [h1] at ht; simpa using ht.2
    have : (meant m.L v).vals = [] := by
      unfold meant at hk ⊢
      by_cases h0 : v.kind = 3 ∧ v.n = 0
      · rw [if_pos h0]
      · rw [if_neg h0] at hk ⊢
        by_cases hn : nameB m.L v = true
        · rw [if_pos hn] at hk ⊢
          have hm := h.may _ (ob_mem (name_parts hn).2.2.1)
          unfold mayB at hm
          rw [if_pos hk] at hm
          simp at hm
          exact hm.1.2
        · rw [if_neg hn]; rfl
    rw [this]; simp
  | false =>
    cases h2 : nameB m.L v with
    | true =>
      simp only [Bool.false_or, if_true]
      have h3 : v.kind ≠ 3 := fun e => by unfold txB at h1; rw [h2] at h1; simp [e] at h1
      have hm : meant m.L v = ob m.L (at_ v) := by unfold meant; rw [if_neg (fun e => h3 e.1), if_pos h2]
      have hs : txS m.L v = { data := #[] } := by unfold txS; rw [if_neg (fun e => h3 e.1)]
      rw [hs] at ht
      rw [ht.1, hm, size0]
      simp
    | false => simp
theorem get_same {room : Nat} {m : M} (h : OkM room m) (v : Vl) (i : Int) (hm : meansB m.L v = true) : getV (meant m.L v) i = dgV m.L v i ∧ getT (meant m.L v) i = dgT m.L v i := by
  have ht := tx_same h v
  have hz := size_same h v
  rw [if_pos hm, if_pos hm] at hz
  have hT : szT m.L v = 0 := by have := hz.2; omega
  have hN := hz.1
  unfold getV getT dgV dgT
  rw [hT, if_pos rfl]
  have htz : ((meant m.L v).text.size : Int) = (txS m.L v).size := by rw [ht.1]
  cases h1 : txB m.L v with
  | true =>
    have hzs : szN m.L v = (txS m.L v).size := by unfold szN; rw [if_pos h1]
    have hv0 : (meant m.L v).vals.length = 0 := by omega
    rw [hzs, ht.1]
    cases hi : inB i (txS m.L v).size with
    | true => simp
    | false =>
      rw [hv0]
      have : inB i 0 = false := by simp [inB]; try omega
      simp [this]
  | false =>
    have h3 : txS m.L v = { data := #[] } := by
      unfold txS
      by_cases e : v.kind = 3 ∧ v.n ≠ 0 ∧ nameB m.L v = true
      · unfold txB at h1; rw [e.2.2] at h1; simp [e.1] at h1
      · rw [if_neg e]
    rw [ht.1, h3]
    have he : inB i ({ data := #[] } : ByteArray).size = false := by rw [size0]; simp [inB]; try omega
    rw [he]
    have hn : nameB m.L v = true := by rw [means_tx, h1] at hm; simpa using hm
    have hk3 : v.kind ≠ 3 := fun e => by unfold txB at h1; rw [hn] at h1; simp [e] at h1
    have hmt : meant m.L v = ob m.L (at_ v) := by unfold meant; rw [if_neg (fun e => hk3 e.1), if_pos hn]
    have hzs : szN m.L v = (ob m.L (at_ v)).vals.length := by unfold szN; rw [h1, hn]; simp
    rw [hmt, hzs]
    cases hi : inB i (ob m.L (at_ v)).vals.length with
    | true => simp
    | false => simp
theorem of_same (L : List Ob) (v : Vl) : (meant L v).of = if nameB L v = true then (ob L (at_ v)).of else 0 := by
  unfold meant
  by_cases h0 : v.kind = 3 ∧ v.n = 0
  · rw [if_pos h0, if_neg (fun e => by have := (name_parts e).1; omega)]
  · rw [if_neg h0]
    by_cases hn : nameB L v = true
    · rw [if_pos hn, if_pos hn]
    · rw [if_neg hn, if_neg hn]; rfl

end Go.Proofs.Ytfeeikajekemlaa
