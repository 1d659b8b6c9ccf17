/-
  Contracts of parse.typeNode, wordNode and constantNode, of parse.reader's plainType and constant. Conditions: as said.
-/
import Derived.Test.YtbknflaooemigaaRdl
namespace Go.Proofs.Ytbknflaooemigaa
open Go.RowKit Go.Sort
set_option linter.unusedVariables false
set_option linter.unusedSimpArgs false

theorem tn_big (kd ln cl : Nat) (nm : Int) (X : ByteArray) (w : World) (e2 : ((kd : Int) == 2) = true) : Calls Try.prog 82 #[.agg #[.int .u8 kd, .int .i64 ln, .int .i64 cl, .int .i64 nm, .string X]] w fun e w' => e = .returned (.tuple #[nV 19 0 0 0 0 X, .bool true]) ∧ Below w.heap.size w w' := by
  go_enter Try.func82, Try.ntmps82
  go_wp2_with fail
  refine bodyPost_ret (v := .tuple #[nV 19 0 0 0 0 X, .bool true]) (by simp [results, Try.results82, go_sem]) rfl ⟨rfl, by go_grown⟩

theorem tn_not (kd ln cl : Nat) (nm : Int) (X : ByteArray) (w : World) (e2 : ((kd : Int) == 2) = false) (e6 : ((kd : Int) != 6) = true) : Calls Try.prog 82 #[.agg #[.int .u8 kd, .int .i64 ln, .int .i64 cl, .int .i64 nm, .string X]] w fun e w' => e = .returned (.tuple #[nV 0 0 0 0 0 { data := #[] }, .bool false]) ∧ Below w.heap.size w w' := by
  go_enter Try.func82, Try.ntmps82
  go_wp2_with fail
  refine bodyPost_ret (v := .tuple #[nV 0 0 0 0 0 { data := #[] }, .bool false]) (by simp [results, Try.results82, go_sem]) rfl ⟨rfl, by go_grown⟩

theorem tn_0 (kd ln cl : Nat) (nm : Int) (X : ByteArray) (w : World) (e2 : ((kd : Int) == 2) = false) (e6 : ((kd : Int) != 6) = false)  (x0 : (X.toList == [105, 110, 116]) = true) : Calls Try.prog 82 #[.agg #[.int .u8 kd, .int .i64 ln, .int .i64 cl, .int .i64 nm, .string X]] w fun e w' => e = .returned (.tuple #[nV 15 0 0 0 0 { data := #[] }, .bool true]) ∧ Below w.heap.size w w' := by
  go_enter Try.func82, Try.ntmps82
  go_wp2_with fail
  refine bodyPost_ret (v := .tuple #[nV 15 0 0 0 0 { data := #[] }, .bool true]) (by simp [results, Try.results82, go_sem]) rfl ⟨rfl, by go_grown⟩

theorem tn_1 (kd ln cl : Nat) (nm : Int) (X : ByteArray) (w : World) (e2 : ((kd : Int) == 2) = false) (e6 : ((kd : Int) != 6) = false) (x0 : (X.toList == [105, 110, 116]) = false) (x1 : (X.toList == [98, 111, 111, 108]) = true) : Calls Try.prog 82 #[.agg #[.int .u8 kd, .int .i64 ln, .int .i64 cl, .int .i64 nm, .string X]] w fun e w' => e = .returned (.tuple #[nV 16 0 0 0 0 { data := #[] }, .bool true]) ∧ Below w.heap.size w w' := by
  go_enter Try.func82, Try.ntmps82
  go_wp2_with fail
  refine bodyPost_ret (v := .tuple #[nV 16 0 0 0 0 { data := #[] }, .bool true]) (by simp [results, Try.results82, go_sem]) rfl ⟨rfl, by go_grown⟩

theorem tn_2 (kd ln cl : Nat) (nm : Int) (X : ByteArray) (w : World) (e2 : ((kd : Int) == 2) = false) (e6 : ((kd : Int) != 6) = false) (x0 : (X.toList == [105, 110, 116]) = false) (x1 : (X.toList == [98, 111, 111, 108]) = false) (x2 : (X.toList == [115, 116, 114]) = true) : Calls Try.prog 82 #[.agg #[.int .u8 kd, .int .i64 ln, .int .i64 cl, .int .i64 nm, .string X]] w fun e w' => e = .returned (.tuple #[nV 17 0 0 0 0 { data := #[] }, .bool true]) ∧ Below w.heap.size w w' := by
  go_enter Try.func82, Try.ntmps82
  go_wp2_with fail
  refine bodyPost_ret (v := .tuple #[nV 17 0 0 0 0 { data := #[] }, .bool true]) (by simp [results, Try.results82, go_sem]) rfl ⟨rfl, by go_grown⟩

theorem tn_3 (kd ln cl : Nat) (nm : Int) (X : ByteArray) (w : World) (e2 : ((kd : Int) == 2) = false) (e6 : ((kd : Int) != 6) = false) (x0 : (X.toList == [105, 110, 116]) = false) (x1 : (X.toList == [98, 111, 111, 108]) = false) (x2 : (X.toList == [115, 116, 114]) = false) (x3 : (X.toList == [99, 111, 109, 112]) = true) : Calls Try.prog 82 #[.agg #[.int .u8 kd, .int .i64 ln, .int .i64 cl, .int .i64 nm, .string X]] w fun e w' => e = .returned (.tuple #[nV 18 0 0 0 0 { data := #[] }, .bool true]) ∧ Below w.heap.size w w' := by
  go_enter Try.func82, Try.ntmps82
  go_wp2_with fail
  refine bodyPost_ret (v := .tuple #[nV 18 0 0 0 0 { data := #[] }, .bool true]) (by simp [results, Try.results82, go_sem]) rfl ⟨rfl, by go_grown⟩

theorem tn_none (kd ln cl : Nat) (nm : Int) (X : ByteArray) (w : World) (e2 : ((kd : Int) == 2) = false) (e6 : ((kd : Int) != 6) = false) (x0 : (X.toList == [105, 110, 116]) = false) (x1 : (X.toList == [98, 111, 111, 108]) = false) (x2 : (X.toList == [115, 116, 114]) = false) (x3 : (X.toList == [99, 111, 109, 112]) = false) : Calls Try.prog 82 #[.agg #[.int .u8 kd, .int .i64 ln, .int .i64 cl, .int .i64 nm, .string X]] w fun e w' => e = .returned (.tuple #[nV 0 0 0 0 0 { data := #[] }, .bool false]) ∧ Below w.heap.size w w' := by
  go_enter Try.func82, Try.ntmps82
  go_wp2_with fail
  refine bodyPost_ret (v := .tuple #[nV 0 0 0 0 0 { data := #[] }, .bool false]) (by simp [results, Try.results82, go_sem]) rfl ⟨rfl, by go_grown⟩

theorem wn_0 (X : ByteArray) (w : World)  (x0 : (X.toList == [116, 114, 117, 101]) = true) : Calls Try.prog 99 #[.string X] w fun e w' => e = .returned (.tuple #[nV 24 0 0 0 1 { data := #[] }, .bool true]) ∧ Below w.heap.size w w' := by
  go_enter Try.func99, Try.ntmps99
  go_wp2_with fail
  refine bodyPost_ret (v := .tuple #[nV 24 0 0 0 1 { data := #[] }, .bool true]) (by simp [results, Try.results99, go_sem]) rfl ⟨rfl, by go_grown⟩

theorem wn_1 (X : ByteArray) (w : World) (x0 : (X.toList == [116, 114, 117, 101]) = false) (x1 : (X.toList == [102, 97, 108, 115, 101]) = true) : Calls Try.prog 99 #[.string X] w fun e w' => e = .returned (.tuple #[nV 24 0 0 0 0 { data := #[] }, .bool true]) ∧ Below w.heap.size w w' := by
  go_enter Try.func99, Try.ntmps99
  go_wp2_with fail
  refine bodyPost_ret (v := .tuple #[nV 24 0 0 0 0 { data := #[] }, .bool true]) (by simp [results, Try.results99, go_sem]) rfl ⟨rfl, by go_grown⟩

theorem wn_2 (X : ByteArray) (w : World) (x0 : (X.toList == [116, 114, 117, 101]) = false) (x1 : (X.toList == [102, 97, 108, 115, 101]) = false) (x2 : (X.toList == [110, 105, 108]) = true) : Calls Try.prog 99 #[.string X] w fun e w' => e = .returned (.tuple #[nV 25 0 0 0 0 { data := #[] }, .bool true]) ∧ Below w.heap.size w w' := by
  go_enter Try.func99, Try.ntmps99
  go_wp2_with fail
  refine bodyPost_ret (v := .tuple #[nV 25 0 0 0 0 { data := #[] }, .bool true]) (by simp [results, Try.results99, go_sem]) rfl ⟨rfl, by go_grown⟩

theorem wn_none (X : ByteArray) (w : World) (x0 : (X.toList == [116, 114, 117, 101]) = false) (x1 : (X.toList == [102, 97, 108, 115, 101]) = false) (x2 : (X.toList == [110, 105, 108]) = false) : Calls Try.prog 99 #[.string X] w fun e w' => e = .returned (.tuple #[nV 0 0 0 0 0 { data := #[] }, .bool false]) ∧ Below w.heap.size w w' := by
  go_enter Try.func99, Try.ntmps99
  go_wp2_with fail
  refine bodyPost_ret (v := .tuple #[nV 0 0 0 0 0 { data := #[] }, .bool false]) (by simp [results, Try.results99, go_sem]) rfl ⟨rfl, by go_grown⟩

theorem cn_int (kd ln cl : Nat) (nm : Int) (X : ByteArray) (w : World)  (k3 : ((kd : Int) == 3) = true) : Calls Try.prog 98 #[.agg #[.int .u8 kd, .int .i64 ln, .int .i64 cl, .int .i64 nm, .string X]] w fun e w' => e = .returned (.tuple #[nV 21 0 0 0 nm { data := #[] }, .bool true]) ∧ Below w.heap.size w w' := by
  go_enter Try.func98, Try.ntmps98
  go_wp2_with fail
  refine bodyPost_ret (v := .tuple #[nV 21 0 0 0 nm { data := #[] }, .bool true]) (by simp [results, Try.results98, go_sem]) rfl ⟨rfl, by go_grown⟩

theorem cn_comp (kd ln cl : Nat) (nm : Int) (X : ByteArray) (w : World) (k3 : ((kd : Int) == 3) = false) (k4 : ((kd : Int) == 4) = true) : Calls Try.prog 98 #[.agg #[.int .u8 kd, .int .i64 ln, .int .i64 cl, .int .i64 nm, .string X]] w fun e w' => e = .returned (.tuple #[nV 22 0 0 0 nm { data := #[] }, .bool true]) ∧ Below w.heap.size w w' := by
  go_enter Try.func98, Try.ntmps98
  go_wp2_with fail
  refine bodyPost_ret (v := .tuple #[nV 22 0 0 0 nm { data := #[] }, .bool true]) (by simp [results, Try.results98, go_sem]) rfl ⟨rfl, by go_grown⟩

theorem cn_str (kd ln cl : Nat) (nm : Int) (X : ByteArray) (w : World) (k3 : ((kd : Int) == 3) = false) (k4 : ((kd : Int) == 4) = false) (k5 : ((kd : Int) == 5) = true) : Calls Try.prog 98 #[.agg #[.int .u8 kd, .int .i64 ln, .int .i64 cl, .int .i64 nm, .string X]] w fun e w' => e = .returned (.tuple #[nV 23 0 0 0 0 X, .bool true]) ∧ Below w.heap.size w w' := by
  go_enter Try.func98, Try.ntmps98
  go_wp2_with fail
  refine bodyPost_ret (v := .tuple #[nV 23 0 0 0 0 X, .bool true]) (by simp [results, Try.results98, go_sem]) rfl ⟨rfl, by go_grown⟩

theorem cn_none (kd ln cl : Nat) (nm : Int) (X : ByteArray) (w : World) (k3 : ((kd : Int) == 3) = false) (k4 : ((kd : Int) == 4) = false) (k5 : ((kd : Int) == 5) = false) (k6 : ((kd : Int) == 6) = false) : Calls Try.prog 98 #[.agg #[.int .u8 kd, .int .i64 ln, .int .i64 cl, .int .i64 nm, .string X]] w fun e w' => e = .returned (.tuple #[nV 0 0 0 0 0 { data := #[] }, .bool false]) ∧ Below w.heap.size w w' := by
  go_enter Try.func98, Try.ntmps98
  go_wp2_with fail
  refine bodyPost_ret (v := .tuple #[nV 0 0 0 0 0 { data := #[] }, .bool false]) (by simp [results, Try.results98, go_sem]) rfl ⟨rfl, by go_grown⟩

set_option maxHeartbeats 400000 in
theorem cn_word (kd ln cl : Nat) (nm : Int) (X : ByteArray) (w : World) (k3 : ((kd : Int) == 3) = false) (k4 : ((kd : Int) == 4) = false) (k5 : ((kd : Int) == 5) = false) (k6 : ((kd : Int) == 6) = true) (k : Nat) (m : Int) (Y : ByteArray) (q : Bool) (H : Hid (∀ w, Calls Try.prog 99 #[.string X] w fun e w' => e = .returned (.tuple #[nV k 0 0 0 m Y, .bool q]) ∧ Below w.heap.size w w')) : Calls Try.prog 98 #[.agg #[.int .u8 kd, .int .i64 ln, .int .i64 cl, .int .i64 nm, .string X]] w fun e w' => e = .returned (.tuple #[nV k 0 0 0 m Y, .bool q]) ∧ Below w.heap.size w w' := by
  go_enter Try.func98, Try.ntmps98
  go_wp2_with fail
  refine (H.out _).mono ?_
  rintro e w1 ⟨rfl, hb⟩
  obtain ⟨hc, hf⟩ := bcell hb
  have hz := hb.size
  simp only [World.size_alloc] at hc hf hz
  go_wp2_with fail
  refine bodyPost_ret (v := .tuple #[nV k 0 0 0 m Y, .bool q]) (by simp [results, Try.results98, go_sem, hc]) rfl ⟨rfl, ?_⟩
  have hb' := (by go_grown : Below w.heap.size w _).trans (hb.mono (by simp; omega))
  go_grown

/-- What a token is by itself, as a value. -/
def leafV (q : Option (Nat × Int × List UInt8)) : Nat × Int × List UInt8 := q.getD (0, 0, [])
def typeL (t : Tok) : Option (Nat × Int × List UInt8) := (typeK t).map fun q => (q.1, 0, q.2)

theorem typeNode_any (t : Tok) (w : World) : Calls Try.prog 82 #[tV t] w fun e w' => e = .returned (.tuple #[nV (leafV (typeL t)).1 0 0 0 (leafV (typeL t)).2.1 (bs (leafV (typeL t)).2.2), .bool (typeL t).isSome]) ∧ Below w.heap.size w w' := by
  obtain ⟨kd, ln, cl, nm, tx⟩ := t
  by_cases h2 : kd = 2
  · rw [show typeL ⟨kd, ln, cl, nm, tx⟩ = some (19, 0, tx) by simp [typeL, typeK, h2]]
    exact tn_big kd ln cl nm (bs tx) w (by rw [h2]; rfl)
  · have e2 : ((kd : Int) == 2) = false := by rw [beq_eq_false_iff_ne]; omega
    by_cases h6 : kd = 6
    · have e6 : ((kd : Int) != 6) = false := by rw [h6]; rfl
      by_cases x0 : tx = [105, 110, 116]
      · have := tn_0 kd ln cl nm (bs tx) w e2 e6  (by rw [bs_toList, x0]; rfl)
        rw [show typeL ⟨kd, ln, cl, nm, tx⟩ = some (15, 0, []) by simp [typeL, typeK, h6, x0]]
        exact this
      by_cases x1 : tx = [98, 111, 111, 108]
      · have := tn_1 kd ln cl nm (bs tx) w e2 e6 (by rw [bs_toList]; simpa using x0) (by rw [bs_toList, x1]; rfl)
        rw [show typeL ⟨kd, ln, cl, nm, tx⟩ = some (16, 0, []) by simp [typeL, typeK, h6, x1]]
        exact this
      by_cases x2 : tx = [115, 116, 114]
      · have := tn_2 kd ln cl nm (bs tx) w e2 e6 (by rw [bs_toList]; simpa using x0) (by rw [bs_toList]; simpa using x1) (by rw [bs_toList, x2]; rfl)
        rw [show typeL ⟨kd, ln, cl, nm, tx⟩ = some (17, 0, []) by simp [typeL, typeK, h6, x2]]
        exact this
      by_cases x3 : tx = [99, 111, 109, 112]
      · have := tn_3 kd ln cl nm (bs tx) w e2 e6 (by rw [bs_toList]; simpa using x0) (by rw [bs_toList]; simpa using x1) (by rw [bs_toList]; simpa using x2) (by rw [bs_toList, x3]; rfl)
        rw [show typeL ⟨kd, ln, cl, nm, tx⟩ = some (18, 0, []) by simp [typeL, typeK, h6, x3]]
        exact this
      have := tn_none kd ln cl nm (bs tx) w e2 e6 (by rw [bs_toList]; simpa using x0) (by rw [bs_toList]; simpa using x1) (by rw [bs_toList]; simpa using x2) (by rw [bs_toList]; simpa using x3)
      rw [show typeL ⟨kd, ln, cl, nm, tx⟩ = none by simp [typeL, typeK, h6, x0, x1, x2, x3]]
      exact this
    · have e6 : ((kd : Int) != 6) = true := bne_of (by omega)
      have := tn_not kd ln cl nm (bs tx) w e2 e6
      rw [show typeL ⟨kd, ln, cl, nm, tx⟩ = none by simp [typeL, typeK, h2, h6]]
      exact this

theorem constNode_any (t : Tok) (w : World) : Calls Try.prog 98 #[tV t] w fun e w' => e = .returned (.tuple #[nV (leafV (constK t)).1 0 0 0 (leafV (constK t)).2.1 (bs (leafV (constK t)).2.2), .bool (constK t).isSome]) ∧ Below w.heap.size w w' := by
  obtain ⟨kd, ln, cl, nm, tx⟩ := t
  by_cases h3 : kd = 3
  · have := cn_int kd ln cl nm (bs tx) w (by rw [h3]; rfl)
    rw [show constK ⟨kd, ln, cl, nm, tx⟩ = some (21, nm, []) by simp [constK, h3]]
    exact this
  have e3 : ((kd : Int) == 3) = false := by rw [beq_eq_false_iff_ne]; omega
  by_cases h4 : kd = 4
  · have := cn_comp kd ln cl nm (bs tx) w e3 (by rw [h4]; rfl)
    rw [show constK ⟨kd, ln, cl, nm, tx⟩ = some (22, nm, []) by simp [constK, h4]]
    exact this
  have e4 : ((kd : Int) == 4) = false := by rw [beq_eq_false_iff_ne]; omega
  by_cases h5 : kd = 5
  · have := cn_str kd ln cl nm (bs tx) w e3 e4 (by rw [h5]; rfl)
    rw [show constK ⟨kd, ln, cl, nm, tx⟩ = some (23, 0, tx) by simp [constK, h5]]
    exact this
  have e5 : ((kd : Int) == 5) = false := by rw [beq_eq_false_iff_ne]; omega
  by_cases h6 : kd = 6
  · have e6 : ((kd : Int) == 6) = true := by rw [h6]; rfl
    by_cases x0 : tx = [116, 114, 117, 101]
    · have := cn_word kd ln cl nm (bs tx) w e3 e4 e5 e6 24 1 { data := #[] } true (Lib.hid fun w => wn_0 (bs tx) w  (by rw [bs_toList, x0]; rfl))
      rw [show constK ⟨kd, ln, cl, nm, tx⟩ = some (24, 1, []) by simp [constK, h6, x0]]
      exact this
    by_cases x1 : tx = [102, 97, 108, 115, 101]
    · have := cn_word kd ln cl nm (bs tx) w e3 e4 e5 e6 24 0 { data := #[] } true (Lib.hid fun w => wn_1 (bs tx) w (by rw [bs_toList]; simpa using x0) (by rw [bs_toList, x1]; rfl))
      rw [show constK ⟨kd, ln, cl, nm, tx⟩ = some (24, 0, []) by simp [constK, h6, x1]]
      exact this
    by_cases x2 : tx = [110, 105, 108]
    · have := cn_word kd ln cl nm (bs tx) w e3 e4 e5 e6 25 0 { data := #[] } true (Lib.hid fun w => wn_2 (bs tx) w (by rw [bs_toList]; simpa using x0) (by rw [bs_toList]; simpa using x1) (by rw [bs_toList, x2]; rfl))
      rw [show constK ⟨kd, ln, cl, nm, tx⟩ = some (25, 0, []) by simp [constK, h6, x2]]
      exact this
    have := cn_word kd ln cl nm (bs tx) w e3 e4 e5 e6 0 0 { data := #[] } false (Lib.hid fun w => wn_none (bs tx) w (by rw [bs_toList]; simpa using x0) (by rw [bs_toList]; simpa using x1) (by rw [bs_toList]; simpa using x2))
    rw [show constK ⟨kd, ln, cl, nm, tx⟩ = none by simp [constK, h6, x0, x1, x2]]
    exact this
  have e6 : ((kd : Int) == 6) = false := by rw [beq_eq_false_iff_ne]; omega
  have := cn_none kd ln cl nm (bs tx) w e3 e4 e5 e6
  rw [show constK ⟨kd, ln, cl, nm, tx⟩ = none by simp [constK, h3, h4, h5, h6]]
  exact this

set_option maxHeartbeats 1000000 in
theorem plainType_r {w : World} {b tb to tc : Nat} {T : List Tok} {at_ d : Nat} {v : Value} {D : List Nd} {n : Nat} {ts : List Tok} (h : Sit w b tb to tc T at_ d v D n ts) : Calls Try.prog 76 #[pR b] w (Post b tb to tc T d D w (plainTypeP d ts)) := by
  have hbl := h.rd.lt
  obtain ⟨⟨kd, ln, cl, nm, tx⟩, ht⟩ : ∃ t, hd ts = t := ⟨_, rfl⟩
  obtain ⟨a, cap, hv⟩ := own_slice h.rd.own
  obtain ⟨dn, hdn⟩ : ∃ dn, D.length = dn := ⟨_, rfl⟩
  have HH := here_any h ht dn hdn a cap (by rw [hv, hdn])
  obtain ⟨⟨k, m, x⟩, hq⟩ : ∃ q, leafV (typeL (hd ts)) = q := ⟨_, rfl⟩
  obtain ⟨q, hq2⟩ : ∃ q, (typeL (hd ts)).isSome = q := ⟨_, rfl⟩
  have HN := fun w => typeNode_any (hd ts) w
  rw [hq, hq2, ht] at HN
  obtain ⟨X, hX⟩ : ∃ X, bs tx = X := ⟨_, rfl⟩
  obtain ⟨Y, hY⟩ : ∃ Y, bs x = Y := ⟨_, rfl⟩
  replace HN : ∀ w, Calls Try.prog 82 #[.agg #[.int .u8 kd, .int .i64 ln, .int .i64 cl, .int .i64 nm, .string (bs tx)]] w fun e w' => e = .returned (.tuple #[.agg #[.int .u8 k, .int .i64 0, .int .i64 0, .int .i64 0, .int .i64 m, .string (bs x)], .bool q]) ∧ Below w.heap.size w w' := HN
  rw [hX] at HN HH
  rw [hY] at HN
  replace HN := Lib.hid HN
  replace HH := Lib.hid HH
  have HR : (q = true → plainTypeP d ts = .ok (.cons ⟨k, ln, cl, m, x⟩ .nil .nil) ts.tail ∧ (hd ts).kind ≠ 8) ∧ (q = false → plainTypeP d ts = .bad 5 ln cl) := by
    unfold plainTypeP
    cases hK : typeL (hd ts) with
    | none =>
      rw [hK] at hq2
      refine ⟨(fun e => by rw [← hq2] at e; cases e), fun _ => ?_⟩
      simp [typeL] at hK; simp only [hK]; unfold badAt; rw [ht]
    | some z =>
      rw [hK] at hq hq2
      refine ⟨fun _ => ⟨?_, ?_⟩, (fun e => by rw [← hq2] at e; cases e)⟩
      · obtain ⟨z', hz1, hz2⟩ := Option.map_eq_some_iff.1 hK; rw [← hz2] at hq; cases hq; simp only [hz1]; rw [ht]
      · obtain ⟨z', hz1, hz2⟩ := Option.map_eq_some_iff.1 hK; have := typeK_kind hz1; omega
  clear hq2 hq
  cases q with
  | false =>
    rw [HR.2 rfl]
    have HP := Lib.hid (fun (w' : World) (hb : Below w.heap.size w w') => pass_no (h.rd.carry hb) h.next)
    rw [ht] at HP
    replace h := Lib.hid h
    clear HR ht
    go_enter Try.func76, Try.ntmps76
    go_wp2_with fail
    refine HH.out.mono ?_
    rintro e w1 ⟨rfl, hb1⟩
    replace hb1 := Lib.hid hb1
    go_wp2_with fail
    refine (HN.out _).mono ?_
    rintro e w2 ⟨rfl, hb2⟩
    replace hb2 := Lib.hid (below_step (below_step hb1.out (below_alloc _ _)) hb2)
    go_wp2_with fail
    refine (HP.out _ (below_step hb2.out (below_alloc _ _))).mono ?_
    rintro e w3 ⟨rfl, h1, h2⟩
    replace h1 := Lib.hid h1
    replace h2 := Lib.hid h2
    go_wp2_with fail
    go_ret
    exact ⟨rfl, h1.out, Fr.only ((Onl.below (below_step hb2.out (below_alloc _ _))).trans h2.out) (by omega)⟩
  | true =>
    obtain ⟨HR1, hk⟩ := HR.1 rfl
    rw [HR1]
    have HP := Lib.hid (fun (w' : World) (hb : Below w.heap.size w w') => pass_yes (h.rd.carry hb) h.next)
    have HT := Lib.hid (h.tail (w' := w) · hk)
    have hsz := h.rm
    have HE : Hid (T.drop (at_ + 1) = ts.tail) := Lib.hid (by rw [← List.drop_drop, h.dr]; simp)
    replace h := Lib.hid h
    replace hY := Lib.hid hY
    replace hdn := Lib.hid hdn
    clear HR HR1 ht hk hv
    go_enter Try.func76, Try.ntmps76
    go_wp2_with fail
    refine HH.out.mono ?_
    rintro e w1 ⟨rfl, hb1⟩
    replace hb1 := Lib.hid hb1
    have hbl1 : b < w1.heap.size := by have := hb1.out.size; omega
    go_wp2_with fail
    refine (HN.out _).mono ?_
    rintro e w2 ⟨rfl, hb2⟩
    have HM0 := Lib.hid ((SAt.made w1 kd ln cl nm X dn).below hb2)
    have hsz2 := hb2.size
    simp only [World.size_alloc] at hsz2
    replace hb2 := Lib.hid (below_step (below_step hb1.out (below_alloc _ _)) hb2)
    go_wp2_with fail
    refine (HP.out _ (below_step hb2.out (below_alloc _ _))).mono ?_
    rintro e w3 ⟨rfl, h1, h2⟩
    have hSA : SAt w3 w1.heap.size kd ln cl nm X dn := (h2.block _ (by simp; omega) (by omega)).trans (HM0.out.below (below_alloc _ _))
    obtain ⟨m0, m1, m2, m3, m4, m5⟩ := hSA.at
    clear hSA
    have hn := (h2.block w2.heap.size (by simp) (by omega)).trans (heap_alloc_new w2 _)
    have n0 := cell_of_row w3 w2.heap.size 0 _ 32 (0, 0) hn
    have n1 := cell_of_row w3 w2.heap.size 1 _ 32 (0, 0) hn
    have n2 := cell_of_row w3 w2.heap.size 2 _ 32 (0, 0) hn
    have n3 := cell_of_row w3 w2.heap.size 3 _ 32 (0, 0) hn
    have n4 := cell_of_row w3 w2.heap.size 4 _ 32 (0, 0) hn
    have n5 := cell_of_row w3 w2.heap.size 5 _ 32 (0, 0) hn
    simp only [List.getElem?_toArray, List.getElem?_cons_zero, List.getElem?_cons_succ] at n0 n1 n2 n3 n4 n5
    have HA := Lib.hid (add_any h1 kd ln cl dn nm X k 0 0 0 m Y 0 (by rw [hdn.out]; rfl) (by omega))
    replace h1 := Lib.hid h1
    replace h2 := Lib.hid h2
    clear hn
    go_wp2_with fail
    refine HA.out.mono ?_
    rintro e w4 ⟨rfl, ⟨v4, h4⟩, h5⟩
    replace h4 := Lib.hid h4
    replace h5 := Lib.hid h5
    go_wp2_with fail
    go_ret
    refine ⟨rfl, ⟨at_ + 1, v4, HE.out, by have := h4.out; rw [← hY.out] at this; simpa [Fo.post, Fo.cnt, Inf.nd] using this⟩, (Fr.only ((Onl.below (below_step hb2.out (below_alloc _ _))).trans h2.out) (by omega)).trans h5.out⟩

set_option maxHeartbeats 1000000 in
theorem constant_r {w : World} {b tb to tc : Nat} {T : List Tok} {at_ d : Nat} {v : Value} {D : List Nd} {n : Nat} {ts : List Tok} (h : Sit w b tb to tc T at_ d v D n ts) : Calls Try.prog 95 #[pR b] w (Post b tb to tc T d D w (constP d ts)) := by
  have hbl := h.rd.lt
  obtain ⟨⟨kd, ln, cl, nm, tx⟩, ht⟩ : ∃ t, hd ts = t := ⟨_, rfl⟩
  obtain ⟨a, cap, hv⟩ := own_slice h.rd.own
  obtain ⟨dn, hdn⟩ : ∃ dn, D.length = dn := ⟨_, rfl⟩
  have HH := here_any h ht dn hdn a cap (by rw [hv, hdn])
  obtain ⟨⟨k, m, x⟩, hq⟩ : ∃ q, leafV (constK (hd ts)) = q := ⟨_, rfl⟩
  obtain ⟨q, hq2⟩ : ∃ q, (constK (hd ts)).isSome = q := ⟨_, rfl⟩
  have HN := fun w => constNode_any (hd ts) w
  rw [hq, hq2, ht] at HN
  obtain ⟨X, hX⟩ : ∃ X, bs tx = X := ⟨_, rfl⟩
  obtain ⟨Y, hY⟩ : ∃ Y, bs x = Y := ⟨_, rfl⟩
  replace HN : ∀ w, Calls Try.prog 98 #[.agg #[.int .u8 kd, .int .i64 ln, .int .i64 cl, .int .i64 nm, .string (bs tx)]] w fun e w' => e = .returned (.tuple #[.agg #[.int .u8 k, .int .i64 0, .int .i64 0, .int .i64 0, .int .i64 m, .string (bs x)], .bool q]) ∧ Below w.heap.size w w' := HN
  rw [hX] at HN HH
  rw [hY] at HN
  replace HN := Lib.hid HN
  replace HH := Lib.hid HH
  have HR : (q = true → constP d ts = .ok (.cons ⟨k, ln, cl, m, x⟩ .nil .nil) ts.tail ∧ (hd ts).kind ≠ 8) ∧ (q = false → constP d ts = .bad 5 ln cl) := by
    unfold constP
    cases hK : constK (hd ts) with
    | none =>
      rw [hK] at hq2
      refine ⟨(fun e => by rw [← hq2] at e; cases e), fun _ => ?_⟩
      simp [badAt, ht]
    | some z =>
      rw [hK] at hq hq2
      refine ⟨fun _ => ⟨?_, ?_⟩, (fun e => by rw [← hq2] at e; cases e)⟩
      · cases hq; simp [ht]
      · have := constK_kind hK; omega
  clear hq2 hq
  cases q with
  | false =>
    rw [HR.2 rfl]
    have HP := Lib.hid (fun (w' : World) (hb : Below w.heap.size w w') => pass_no (h.rd.carry hb) h.next)
    rw [ht] at HP
    replace h := Lib.hid h
    clear HR ht
    go_enter Try.func95, Try.ntmps95
    go_wp2_with fail
    refine HH.out.mono ?_
    rintro e w1 ⟨rfl, hb1⟩
    replace hb1 := Lib.hid hb1
    go_wp2_with fail
    refine (HN.out _).mono ?_
    rintro e w2 ⟨rfl, hb2⟩
    replace hb2 := Lib.hid (below_step (below_step hb1.out (below_alloc _ _)) hb2)
    go_wp2_with fail
    refine (HP.out _ (below_step hb2.out (below_alloc _ _))).mono ?_
    rintro e w3 ⟨rfl, h1, h2⟩
    replace h1 := Lib.hid h1
    replace h2 := Lib.hid h2
    go_wp2_with fail
    go_ret
    exact ⟨rfl, h1.out, Fr.only ((Onl.below (below_step hb2.out (below_alloc _ _))).trans h2.out) (by omega)⟩
  | true =>
    obtain ⟨HR1, hk⟩ := HR.1 rfl
    rw [HR1]
    have HP := Lib.hid (fun (w' : World) (hb : Below w.heap.size w w') => pass_yes (h.rd.carry hb) h.next)
    have HT := Lib.hid (h.tail (w' := w) · hk)
    have hsz := h.rm
    have HE : Hid (T.drop (at_ + 1) = ts.tail) := Lib.hid (by rw [← List.drop_drop, h.dr]; simp)
    replace h := Lib.hid h
    replace hY := Lib.hid hY
    replace hdn := Lib.hid hdn
    clear HR HR1 ht hk hv
    go_enter Try.func95, Try.ntmps95
    go_wp2_with fail
    refine HH.out.mono ?_
    rintro e w1 ⟨rfl, hb1⟩
    replace hb1 := Lib.hid hb1
    have hbl1 : b < w1.heap.size := by have := hb1.out.size; omega
    go_wp2_with fail
    refine (HN.out _).mono ?_
    rintro e w2 ⟨rfl, hb2⟩
    have HM0 := Lib.hid ((SAt.made w1 kd ln cl nm X dn).below hb2)
    have hsz2 := hb2.size
    simp only [World.size_alloc] at hsz2
    replace hb2 := Lib.hid (below_step (below_step hb1.out (below_alloc _ _)) hb2)
    go_wp2_with fail
    refine (HP.out _ (below_step hb2.out (below_alloc _ _))).mono ?_
    rintro e w3 ⟨rfl, h1, h2⟩
    have hSA : SAt w3 w1.heap.size kd ln cl nm X dn := (h2.block _ (by simp; omega) (by omega)).trans (HM0.out.below (below_alloc _ _))
    obtain ⟨m0, m1, m2, m3, m4, m5⟩ := hSA.at
    clear hSA
    have hn := (h2.block w2.heap.size (by simp) (by omega)).trans (heap_alloc_new w2 _)
    have n0 := cell_of_row w3 w2.heap.size 0 _ 32 (0, 0) hn
    have n1 := cell_of_row w3 w2.heap.size 1 _ 32 (0, 0) hn
    have n2 := cell_of_row w3 w2.heap.size 2 _ 32 (0, 0) hn
    have n3 := cell_of_row w3 w2.heap.size 3 _ 32 (0, 0) hn
    have n4 := cell_of_row w3 w2.heap.size 4 _ 32 (0, 0) hn
    have n5 := cell_of_row w3 w2.heap.size 5 _ 32 (0, 0) hn
    simp only [List.getElem?_toArray, List.getElem?_cons_zero, List.getElem?_cons_succ] at n0 n1 n2 n3 n4 n5
    have HA := Lib.hid (add_any h1 kd ln cl dn nm X k 0 0 0 m Y 0 (by rw [hdn.out]; rfl) (by omega))
    replace h1 := Lib.hid h1
    replace h2 := Lib.hid h2
    clear hn
    go_wp2_with fail
    refine HA.out.mono ?_
    rintro e w4 ⟨rfl, ⟨v4, h4⟩, h5⟩
    replace h4 := Lib.hid h4
    replace h5 := Lib.hid h5
    go_wp2_with fail
    go_ret
    refine ⟨rfl, ⟨at_ + 1, v4, HE.out, by have := h4.out; rw [← hY.out] at this; simpa [Fo.post, Fo.cnt, Inf.nd] using this⟩, (Fr.only ((Onl.below (below_step hb2.out (below_alloc _ _))).trans h2.out) (by omega)).trans h5.out⟩

end Go.Proofs.Ytbknflaooemigaa
