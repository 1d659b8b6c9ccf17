/-
 Contracts of strings.Clone (the library's contract of internal/stringslite.Clone, laid at this program), and of lex.textToken: the same bytes, in memory of their own. Conditions: texts of at most 1000000 bytes. Contracts of lex.kindOfName, lex.signSize and lex.withoutNoughts. Conditions: texts of at most 1000000 bytes that aren't empty. Contract of lex.readNumber. Conditions: texts of at most 100000 bytes that begin with a digit. Contracts of lex.readNumber and lex.readLiteral, for every text. Conditions: texts of at most 100000 bytes; a digit, or a quote, at their front. Contract of lex.readToken. Conditions: texts of at most 100000 bytes that aren't empty.
-/
import Derived.Test.YtbknflaooemigaaGreatBas
import Derived.Shelf.Pu.Clone
import Derived.Test.YtbknflaooemigaaGreatLxa
import Derived.Test.YtbknflaooemigaaGreatQuo
import Derived.Deep.RegionWith
namespace Go.Proofs.YtbknflaooemigaaGreat
section
open Go.RowKit Go.Shelf
set_option linter.unusedVariables false

/-- Which numbers the library's functions and types have here. -/
def here : Ren := { f := fun i => if i = 25 then 103 else i, t := fun i => if i = 37 then 84 else if i = 47 then 116 else i, g := fun i => i }

theorem laid : LaysPu.n25 Tryz.prog here where
 mixed := by kernel_rfl
 f25 := by kernel_rfl
 t0 := by kernel_rfl
 a0 := fun w => by kernel_rfl
 z0 := fun w => by kernel_rfl
 v0 := fun w => by kernel_rfl
 i0 := by kernel_rfl
 t3 := by kernel_rfl
 a3 := fun w => by kernel_rfl
 z3 := fun w => by kernel_rfl
 v3 := fun w => by kernel_rfl
 i3 := by kernel_rfl
 t4 := by kernel_rfl
 a4 := fun w => by kernel_rfl
 z4 := fun w => by kernel_rfl
 v4 := fun w => by kernel_rfl
 i4 := by kernel_rfl
 t5 := by kernel_rfl
 a5 := fun w => by kernel_rfl
 z5 := fun w => by kernel_rfl
 v5 := fun w => by kernel_rfl
 i5 := by kernel_rfl
 t9 := by kernel_rfl
 a9 := fun w => by kernel_rfl
 z9 := fun w => by kernel_rfl
 v9 := fun w => by kernel_rfl
 i9 := by kernel_rfl
 t37 := by kernel_rfl
 a37 := fun w => by kernel_rfl
 z37 := fun w => by kernel_rfl
 v37 := fun w => by kernel_rfl
 i37 := by kernel_rfl
 t47 := by kernel_rfl
 a47 := fun w => by kernel_rfl
 z47 := fun w => by kernel_rfl
 v47 := fun w => by kernel_rfl
 i47 := by kernel_rfl

theorem clone_in (s : ByteArray) (w : World) (hs : s.size ≤ 1000000) : Calls Tryz.prog 103 #[.string s] w fun e w' => e = .returned (.string s) ∧ Below w.heap.size w w' :=
 AnyPu.stringslite_Clone laid s w (by omega)

theorem clone_any (s : ByteArray) (w : World) (hs : s.size ≤ 1000000) : Calls Tryz.prog 85 #[.string s] w fun e w' => e = .returned (.string s) ∧ Below w.heap.size w w' := by
 have H := Lib.hid (fun w => clone_in s w hs)
 go_enter Tryz.func85, Tryz.ntmps85
 go_wp2_with fail
 refine (H.out _).mono ?_
 rintro e w1 ⟨rfl, hb⟩
 go_wp2
 go_ret
 exact ⟨rfl, hb⟩

/-- A token as a value. -/
abbrev tokV (k a b : Nat) (n : Int) (s : ByteArray) : Value := .agg #[.int .u8 k, .int .i64 a, .int .i64 b, .int .i64 n, .string s]

set_option maxHeartbeats 1000000 in
theorem text_any (k : Nat) (s : ByteArray) (w : World) (hs : s.size ≤ 1000000) : Calls Tryz.prog 60 #[.int .u8 k, .string s] w fun e w' => e = .returned (tokV k 0 0 0 s) ∧ Below w.heap.size w w' := by
 have H := Lib.hid (fun w => clone_any s w hs)
 go_enter Tryz.func60, Tryz.ntmps60
 go_wp2_with fail
 refine (H.out _).mono ?_
 rintro e w1 ⟨rfl, hb⟩
 obtain ⟨hc, hf⟩ := bcell hb
 have hz := hb.size
 simp only [World.size_alloc] at hc hf hz
 go_wp2
 refine bodyPost_ret (v := tokV k 0 0 0 s) (by simp [results, Tryz.results60, go_sem, hc]) rfl ⟨rfl, ?_⟩
 have hb' := (by go_grown : Below w.heap.size w _).trans (hb.mono (by simp))
 go_grown
end
end Go.Proofs.YtbknflaooemigaaGreat

namespace Go.Proofs.YtbknflaooemigaaGreat
section
open Go.RowKit
set_option linter.unusedVariables false

theorem kindName_any (s : ByteArray) (w : World) (h0 : 0 < s.size) (r : Nat) (hr : Hid ((if isWord s.data.toList = true then 6 else if grt s[0] = true then 2 else 1) = r)) :
  Calls Tryz.prog 61 #[.string s] w fun e w' => e = .returned (.int .u8 (r : Nat)) ∧ w = w' := by
 have hne := not_nil s h0
 cases h1 : isWord s.data.toList with
 | true =>
  have H1 := Lib.hid (fun w => word_at s true h1 w)
  obtain rfl : 6 = r := by rw [← hr.out, h1]; rfl
  clear h1 hr
  go_enter Tryz.func61, Tryz.ntmps61
  go_wp2_with fail
  refine (H1.out _).mono ?_
  rintro e w' ⟨rfl, rfl⟩
  go_wp2
  go_ret
  exact ⟨rfl, rfl⟩
 | false =>
  have H1 := Lib.hid (fun w => word_at s false h1 w)
  cases h2 : grt s[0] with
  | true =>
   have H2 := Lib.hid (fun w => great_at h2 w)
   obtain rfl : 2 = r := by rw [← hr.out, h1, h2]; rfl
   clear h1 h2 hr
   go_enter Tryz.func61, Tryz.ntmps61
   go_wp2_with fail
   refine (H1.out _).mono ?_
   rintro e w' ⟨rfl, rfl⟩
   go_wp2_with fail
   refine (H2.out _).mono ?_
   rintro e w' ⟨rfl, rfl⟩
   go_wp2
   go_ret
   exact ⟨rfl, rfl⟩
  | false =>
   have H2 := Lib.hid (fun w => great_at h2 w)
   obtain rfl : 1 = r := by rw [← hr.out, h1, h2]; rfl
   clear h1 h2 hr
   go_enter Tryz.func61, Tryz.ntmps61
   go_wp2_with fail
   refine (H1.out _).mono ?_
   rintro e w' ⟨rfl, rfl⟩
   go_wp2_with fail
   refine (H2.out _).mono ?_
   rintro e w' ⟨rfl, rfl⟩
   go_wp2
   go_ret
   exact ⟨rfl, rfl⟩

set_option maxHeartbeats 400000 in
theorem trim_any (s : ByteArray) (w : World) (hs : s.size ≤ 1000000) (h0 : 0 < s.size) (T : ByteArray) (hT : Hid (bs (trim s.data.toList) = T)) :
  Calls Tryz.prog 87 #[.string s] w fun e w' => e = .returned (.string T) ∧ w = w' := by
 obtain ⟨m, hm⟩ : ∃ m, s.size - 1 = m := ⟨_, rfl⟩
 have hl : (s.extract 0 m).data.toList = s.data.toList.dropLast := by rw [ext_list, List.dropLast_eq_take, size_list, hm]; simp
 have hsz : (s.extract 0 m).size ≤ 1000000 := by rw [← size_list, hl, List.length_dropLast, size_list]; omega
 obtain ⟨n, hn⟩ : ∃ n, runL nou s.data.toList.dropLast = n := ⟨_, rfl⟩
 have hnm : n ≤ s.size := by
  have := runL_le nou s.data.toList.dropLast
  rw [hn, List.length_dropLast, size_list] at this; omega
 have HR := Lib.hid (fun w => run_nou_at (s.extract 0 m) hsz n (by rw [hl, hn]) w)
 have hT2 := Lib.hid (show s.extract n s.size = T by
  rw [← hT.out, trim, hn]
  apply bytes_eq
  rw [ext_end, bs_list])
 have hmi : (s.size : Int) - 1 = m := by omega
 have hms : m ≤ s.size := by omega
 clear hl hn hT hm
 go_enter Tryz.func87, Tryz.ntmps87
 go_wp2_with fail
 refine (HR.out _).mono ?_
 rintro e w' ⟨rfl, rfl⟩
 go_wp2
 go_ret
 rw [← hT2.out]
 exact ⟨rfl, rfl⟩

theorem sign2_0 (s X : ByteArray) (w : World) (h1 : 1 < s.size) (hX : s.extract 0 2 = X) (e0 : (X.toList == [38, 38]) = true) : Calls Tryz.prog 65 #[.string s] w fun e w' => e = .returned (.int .i64 2) ∧ w = w' := by
 have h2 : (2 : Int) ≤ s.size := by omega
 have h3 : 2 ≤ s.size := by omega
 go_enter Tryz.func65, Tryz.ntmps65
 go_wp2
 go_ret
 exact ⟨rfl, rfl⟩

theorem sign2_1 (s X : ByteArray) (w : World) (h1 : 1 < s.size) (hX : s.extract 0 2 = X) (e0 : (X.toList == [38, 38]) = false) (e1 : (X.toList == [124, 124]) = true) : Calls Tryz.prog 65 #[.string s] w fun e w' => e = .returned (.int .i64 2) ∧ w = w' := by
 have h2 : (2 : Int) ≤ s.size := by omega
 have h3 : 2 ≤ s.size := by omega
 go_enter Tryz.func65, Tryz.ntmps65
 go_wp2
 go_ret
 exact ⟨rfl, rfl⟩

theorem sign2_2 (s X : ByteArray) (w : World) (h1 : 1 < s.size) (hX : s.extract 0 2 = X) (e0 : (X.toList == [38, 38]) = false) (e1 : (X.toList == [124, 124]) = false) (e2 : (X.toList == [61, 61]) = true) : Calls Tryz.prog 65 #[.string s] w fun e w' => e = .returned (.int .i64 2) ∧ w = w' := by
 have h2 : (2 : Int) ≤ s.size := by omega
 have h3 : 2 ≤ s.size := by omega
 go_enter Tryz.func65, Tryz.ntmps65
 go_wp2
 go_ret
 exact ⟨rfl, rfl⟩

theorem sign2_3 (s X : ByteArray) (w : World) (h1 : 1 < s.size) (hX : s.extract 0 2 = X) (e0 : (X.toList == [38, 38]) = false) (e1 : (X.toList == [124, 124]) = false) (e2 : (X.toList == [61, 61]) = false) (e3 : (X.toList == [33, 61]) = true) : Calls Tryz.prog 65 #[.string s] w fun e w' => e = .returned (.int .i64 2) ∧ w = w' := by
 have h2 : (2 : Int) ≤ s.size := by omega
 have h3 : 2 ≤ s.size := by omega
 go_enter Tryz.func65, Tryz.ntmps65
 go_wp2
 go_ret
 exact ⟨rfl, rfl⟩

theorem sign2_4 (s X : ByteArray) (w : World) (h1 : 1 < s.size) (hX : s.extract 0 2 = X) (e0 : (X.toList == [38, 38]) = false) (e1 : (X.toList == [124, 124]) = false) (e2 : (X.toList == [61, 61]) = false) (e3 : (X.toList == [33, 61]) = false) (e4 : (X.toList == [60, 61]) = true) : Calls Tryz.prog 65 #[.string s] w fun e w' => e = .returned (.int .i64 2) ∧ w = w' := by
 have h2 : (2 : Int) ≤ s.size := by omega
 have h3 : 2 ≤ s.size := by omega
 go_enter Tryz.func65, Tryz.ntmps65
 go_wp2
 go_ret
 exact ⟨rfl, rfl⟩

theorem sign2_5 (s X : ByteArray) (w : World) (h1 : 1 < s.size) (hX : s.extract 0 2 = X) (e0 : (X.toList == [38, 38]) = false) (e1 : (X.toList == [124, 124]) = false) (e2 : (X.toList == [61, 61]) = false) (e3 : (X.toList == [33, 61]) = false) (e4 : (X.toList == [60, 61]) = false) (e5 : (X.toList == [62, 61]) = true) : Calls Tryz.prog 65 #[.string s] w fun e w' => e = .returned (.int .i64 2) ∧ w = w' := by
 have h2 : (2 : Int) ≤ s.size := by omega
 have h3 : 2 ≤ s.size := by omega
 go_enter Tryz.func65, Tryz.ntmps65
 go_wp2
 go_ret
 exact ⟨rfl, rfl⟩

theorem sign1_0_0 (s X : ByteArray) (w : World) (h0 : 0 < s.size) (h1 : ¬ 1 < s.size) (f0 : ((s[0].toNat : Int) == 43) = true) : Calls Tryz.prog 65 #[.string s] w fun e w' => e = .returned (.int .i64 1) ∧ w = w' := by
 have h2 : ¬ (1 : Int) < s.size := by omega
 go_enter Tryz.func65, Tryz.ntmps65
 go_wp2
 go_ret
 exact ⟨rfl, rfl⟩

theorem sign1_0_1 (s X : ByteArray) (w : World) (h0 : 0 < s.size) (h1 : 1 < s.size) (hX : s.extract 0 2 = X) (e0 : (X.toList == [38, 38]) = false) (e1 : (X.toList == [124, 124]) = false) (e2 : (X.toList == [61, 61]) = false) (e3 : (X.toList == [33, 61]) = false) (e4 : (X.toList == [60, 61]) = false) (e5 : (X.toList == [62, 61]) = false) (f0 : ((s[0].toNat : Int) == 43) = true) : Calls Tryz.prog 65 #[.string s] w fun e w' => e = .returned (.int .i64 1) ∧ w = w' := by
 have h2 : (2 : Int) ≤ s.size := by omega
 have h3 : 2 ≤ s.size := by omega
 go_enter Tryz.func65, Tryz.ntmps65
 go_wp2
 go_ret
 exact ⟨rfl, rfl⟩

theorem sign1_1_0 (s X : ByteArray) (w : World) (h0 : 0 < s.size) (h1 : ¬ 1 < s.size) (f0 : ((s[0].toNat : Int) == 43) = false) (f1 : ((s[0].toNat : Int) == 45) = true) : Calls Tryz.prog 65 #[.string s] w fun e w' => e = .returned (.int .i64 1) ∧ w = w' := by
 have h2 : ¬ (1 : Int) < s.size := by omega
 go_enter Tryz.func65, Tryz.ntmps65
 go_wp2
 go_ret
 exact ⟨rfl, rfl⟩

theorem sign1_1_1 (s X : ByteArray) (w : World) (h0 : 0 < s.size) (h1 : 1 < s.size) (hX : s.extract 0 2 = X) (e0 : (X.toList == [38, 38]) = false) (e1 : (X.toList == [124, 124]) = false) (e2 : (X.toList == [61, 61]) = false) (e3 : (X.toList == [33, 61]) = false) (e4 : (X.toList == [60, 61]) = false) (e5 : (X.toList == [62, 61]) = false) (f0 : ((s[0].toNat : Int) == 43) = false) (f1 : ((s[0].toNat : Int) == 45) = true) : Calls Tryz.prog 65 #[.string s] w fun e w' => e = .returned (.int .i64 1) ∧ w = w' := by
 have h2 : (2 : Int) ≤ s.size := by omega
 have h3 : 2 ≤ s.size := by omega
 go_enter Tryz.func65, Tryz.ntmps65
 go_wp2
 go_ret
 exact ⟨rfl, rfl⟩

theorem sign1_2_0 (s X : ByteArray) (w : World) (h0 : 0 < s.size) (h1 : ¬ 1 < s.size) (f0 : ((s[0].toNat : Int) == 43) = false) (f1 : ((s[0].toNat : Int) == 45) = false) (f2 : ((s[0].toNat : Int) == 42) = true) : Calls Tryz.prog 65 #[.string s] w fun e w' => e = .returned (.int .i64 1) ∧ w = w' := by
 have h2 : ¬ (1 : Int) < s.size := by omega
 go_enter Tryz.func65, Tryz.ntmps65
 go_wp2
 go_ret
 exact ⟨rfl, rfl⟩

theorem sign1_2_1 (s X : ByteArray) (w : World) (h0 : 0 < s.size) (h1 : 1 < s.size) (hX : s.extract 0 2 = X) (e0 : (X.toList == [38, 38]) = false) (e1 : (X.toList == [124, 124]) = false) (e2 : (X.toList == [61, 61]) = false) (e3 : (X.toList == [33, 61]) = false) (e4 : (X.toList == [60, 61]) = false) (e5 : (X.toList == [62, 61]) = false) (f0 : ((s[0].toNat : Int) == 43) = false) (f1 : ((s[0].toNat : Int) == 45) = false) (f2 : ((s[0].toNat : Int) == 42) = true) : Calls Tryz.prog 65 #[.string s] w fun e w' => e = .returned (.int .i64 1) ∧ w = w' := by
 have h2 : (2 : Int) ≤ s.size := by omega
 have h3 : 2 ≤ s.size := by omega
 go_enter Tryz.func65, Tryz.ntmps65
 go_wp2
 go_ret
 exact ⟨rfl, rfl⟩

theorem sign1_3_0 (s X : ByteArray) (w : World) (h0 : 0 < s.size) (h1 : ¬ 1 < s.size) (f0 : ((s[0].toNat : Int) == 43) = false) (f1 : ((s[0].toNat : Int) == 45) = false) (f2 : ((s[0].toNat : Int) == 42) = false) (f3 : ((s[0].toNat : Int) == 47) = true) : Calls Tryz.prog 65 #[.string s] w fun e w' => e = .returned (.int .i64 1) ∧ w = w' := by
 have h2 : ¬ (1 : Int) < s.size := by omega
 go_enter Tryz.func65, Tryz.ntmps65
 go_wp2
 go_ret
 exact ⟨rfl, rfl⟩

theorem sign1_3_1 (s X : ByteArray) (w : World) (h0 : 0 < s.size) (h1 : 1 < s.size) (hX : s.extract 0 2 = X) (e0 : (X.toList == [38, 38]) = false) (e1 : (X.toList == [124, 124]) = false) (e2 : (X.toList == [61, 61]) = false) (e3 : (X.toList == [33, 61]) = false) (e4 : (X.toList == [60, 61]) = false) (e5 : (X.toList == [62, 61]) = false) (f0 : ((s[0].toNat : Int) == 43) = false) (f1 : ((s[0].toNat : Int) == 45) = false) (f2 : ((s[0].toNat : Int) == 42) = false) (f3 : ((s[0].toNat : Int) == 47) = true) : Calls Tryz.prog 65 #[.string s] w fun e w' => e = .returned (.int .i64 1) ∧ w = w' := by
 have h2 : (2 : Int) ≤ s.size := by omega
 have h3 : 2 ≤ s.size := by omega
 go_enter Tryz.func65, Tryz.ntmps65
 go_wp2
 go_ret
 exact ⟨rfl, rfl⟩

theorem sign1_4_0 (s X : ByteArray) (w : World) (h0 : 0 < s.size) (h1 : ¬ 1 < s.size) (f0 : ((s[0].toNat : Int) == 43) = false) (f1 : ((s[0].toNat : Int) == 45) = false) (f2 : ((s[0].toNat : Int) == 42) = false) (f3 : ((s[0].toNat : Int) == 47) = false) (f4 : ((s[0].toNat : Int) == 37) = true) : Calls Tryz.prog 65 #[.string s] w fun e w' => e = .returned (.int .i64 1) ∧ w = w' := by
 have h2 : ¬ (1 : Int) < s.size := by omega
 go_enter Tryz.func65, Tryz.ntmps65
 go_wp2
 go_ret
 exact ⟨rfl, rfl⟩

theorem sign1_4_1 (s X : ByteArray) (w : World) (h0 : 0 < s.size) (h1 : 1 < s.size) (hX : s.extract 0 2 = X) (e0 : (X.toList == [38, 38]) = false) (e1 : (X.toList == [124, 124]) = false) (e2 : (X.toList == [61, 61]) = false) (e3 : (X.toList == [33, 61]) = false) (e4 : (X.toList == [60, 61]) = false) (e5 : (X.toList == [62, 61]) = false) (f0 : ((s[0].toNat : Int) == 43) = false) (f1 : ((s[0].toNat : Int) == 45) = false) (f2 : ((s[0].toNat : Int) == 42) = false) (f3 : ((s[0].toNat : Int) == 47) = false) (f4 : ((s[0].toNat : Int) == 37) = true) : Calls Tryz.prog 65 #[.string s] w fun e w' => e = .returned (.int .i64 1) ∧ w = w' := by
 have h2 : (2 : Int) ≤ s.size := by omega
 have h3 : 2 ≤ s.size := by omega
 go_enter Tryz.func65, Tryz.ntmps65
 go_wp2
 go_ret
 exact ⟨rfl, rfl⟩

theorem sign1_5_0 (s X : ByteArray) (w : World) (h0 : 0 < s.size) (h1 : ¬ 1 < s.size) (f0 : ((s[0].toNat : Int) == 43) = false) (f1 : ((s[0].toNat : Int) == 45) = false) (f2 : ((s[0].toNat : Int) == 42) = false) (f3 : ((s[0].toNat : Int) == 47) = false) (f4 : ((s[0].toNat : Int) == 37) = false) (f5 : ((s[0].toNat : Int) == 60) = true) : Calls Tryz.prog 65 #[.string s] w fun e w' => e = .returned (.int .i64 1) ∧ w = w' := by
 have h2 : ¬ (1 : Int) < s.size := by omega
 go_enter Tryz.func65, Tryz.ntmps65
 go_wp2
 go_ret
 exact ⟨rfl, rfl⟩

theorem sign1_5_1 (s X : ByteArray) (w : World) (h0 : 0 < s.size) (h1 : 1 < s.size) (hX : s.extract 0 2 = X) (e0 : (X.toList == [38, 38]) = false) (e1 : (X.toList == [124, 124]) = false) (e2 : (X.toList == [61, 61]) = false) (e3 : (X.toList == [33, 61]) = false) (e4 : (X.toList == [60, 61]) = false) (e5 : (X.toList == [62, 61]) = false) (f0 : ((s[0].toNat : Int) == 43) = false) (f1 : ((s[0].toNat : Int) == 45) = false) (f2 : ((s[0].toNat : Int) == 42) = false) (f3 : ((s[0].toNat : Int) == 47) = false) (f4 : ((s[0].toNat : Int) == 37) = false) (f5 : ((s[0].toNat : Int) == 60) = true) : Calls Tryz.prog 65 #[.string s] w fun e w' => e = .returned (.int .i64 1) ∧ w = w' := by
 have h2 : (2 : Int) ≤ s.size := by omega
 have h3 : 2 ≤ s.size := by omega
 go_enter Tryz.func65, Tryz.ntmps65
 go_wp2
 go_ret
 exact ⟨rfl, rfl⟩

theorem sign1_6_0 (s X : ByteArray) (w : World) (h0 : 0 < s.size) (h1 : ¬ 1 < s.size) (f0 : ((s[0].toNat : Int) == 43) = false) (f1 : ((s[0].toNat : Int) == 45) = false) (f2 : ((s[0].toNat : Int) == 42) = false) (f3 : ((s[0].toNat : Int) == 47) = false) (f4 : ((s[0].toNat : Int) == 37) = false) (f5 : ((s[0].toNat : Int) == 60) = false) (f6 : ((s[0].toNat : Int) == 62) = true) : Calls Tryz.prog 65 #[.string s] w fun e w' => e = .returned (.int .i64 1) ∧ w = w' := by
 have h2 : ¬ (1 : Int) < s.size := by omega
 go_enter Tryz.func65, Tryz.ntmps65
 go_wp2
 go_ret
 exact ⟨rfl, rfl⟩

theorem sign1_6_1 (s X : ByteArray) (w : World) (h0 : 0 < s.size) (h1 : 1 < s.size) (hX : s.extract 0 2 = X) (e0 : (X.toList == [38, 38]) = false) (e1 : (X.toList == [124, 124]) = false) (e2 : (X.toList == [61, 61]) = false) (e3 : (X.toList == [33, 61]) = false) (e4 : (X.toList == [60, 61]) = false) (e5 : (X.toList == [62, 61]) = false) (f0 : ((s[0].toNat : Int) == 43) = false) (f1 : ((s[0].toNat : Int) == 45) = false) (f2 : ((s[0].toNat : Int) == 42) = false) (f3 : ((s[0].toNat : Int) == 47) = false) (f4 : ((s[0].toNat : Int) == 37) = false) (f5 : ((s[0].toNat : Int) == 60) = false) (f6 : ((s[0].toNat : Int) == 62) = true) : Calls Tryz.prog 65 #[.string s] w fun e w' => e = .returned (.int .i64 1) ∧ w = w' := by
 have h2 : (2 : Int) ≤ s.size := by omega
 have h3 : 2 ≤ s.size := by omega
 go_enter Tryz.func65, Tryz.ntmps65
 go_wp2
 go_ret
 exact ⟨rfl, rfl⟩

theorem sign1_7_0 (s X : ByteArray) (w : World) (h0 : 0 < s.size) (h1 : ¬ 1 < s.size) (f0 : ((s[0].toNat : Int) == 43) = false) (f1 : ((s[0].toNat : Int) == 45) = false) (f2 : ((s[0].toNat : Int) == 42) = false) (f3 : ((s[0].toNat : Int) == 47) = false) (f4 : ((s[0].toNat : Int) == 37) = false) (f5 : ((s[0].toNat : Int) == 60) = false) (f6 : ((s[0].toNat : Int) == 62) = false) (f7 : ((s[0].toNat : Int) == 33) = true) : Calls Tryz.prog 65 #[.string s] w fun e w' => e = .returned (.int .i64 1) ∧ w = w' := by
 have h2 : ¬ (1 : Int) < s.size := by omega
 go_enter Tryz.func65, Tryz.ntmps65
 go_wp2
 go_ret
 exact ⟨rfl, rfl⟩

theorem sign1_7_1 (s X : ByteArray) (w : World) (h0 : 0 < s.size) (h1 : 1 < s.size) (hX : s.extract 0 2 = X) (e0 : (X.toList == [38, 38]) = false) (e1 : (X.toList == [124, 124]) = false) (e2 : (X.toList == [61, 61]) = false) (e3 : (X.toList == [33, 61]) = false) (e4 : (X.toList == [60, 61]) = false) (e5 : (X.toList == [62, 61]) = false) (f0 : ((s[0].toNat : Int) == 43) = false) (f1 : ((s[0].toNat : Int) == 45) = false) (f2 : ((s[0].toNat : Int) == 42) = false) (f3 : ((s[0].toNat : Int) == 47) = false) (f4 : ((s[0].toNat : Int) == 37) = false) (f5 : ((s[0].toNat : Int) == 60) = false) (f6 : ((s[0].toNat : Int) == 62) = false) (f7 : ((s[0].toNat : Int) == 33) = true) : Calls Tryz.prog 65 #[.string s] w fun e w' => e = .returned (.int .i64 1) ∧ w = w' := by
 have h2 : (2 : Int) ≤ s.size := by omega
 have h3 : 2 ≤ s.size := by omega
 go_enter Tryz.func65, Tryz.ntmps65
 go_wp2
 go_ret
 exact ⟨rfl, rfl⟩

theorem sign1_8_0 (s X : ByteArray) (w : World) (h0 : 0 < s.size) (h1 : ¬ 1 < s.size) (f0 : ((s[0].toNat : Int) == 43) = false) (f1 : ((s[0].toNat : Int) == 45) = false) (f2 : ((s[0].toNat : Int) == 42) = false) (f3 : ((s[0].toNat : Int) == 47) = false) (f4 : ((s[0].toNat : Int) == 37) = false) (f5 : ((s[0].toNat : Int) == 60) = false) (f6 : ((s[0].toNat : Int) == 62) = false) (f7 : ((s[0].toNat : Int) == 33) = false) (f8 : ((s[0].toNat : Int) == 61) = true) : Calls Tryz.prog 65 #[.string s] w fun e w' => e = .returned (.int .i64 1) ∧ w = w' := by
 have h2 : ¬ (1 : Int) < s.size := by omega
 go_enter Tryz.func65, Tryz.ntmps65
 go_wp2
 go_ret
 exact ⟨rfl, rfl⟩

theorem sign1_8_1 (s X : ByteArray) (w : World) (h0 : 0 < s.size) (h1 : 1 < s.size) (hX : s.extract 0 2 = X) (e0 : (X.toList == [38, 38]) = false) (e1 : (X.toList == [124, 124]) = false) (e2 : (X.toList == [61, 61]) = false) (e3 : (X.toList == [33, 61]) = false) (e4 : (X.toList == [60, 61]) = false) (e5 : (X.toList == [62, 61]) = false) (f0 : ((s[0].toNat : Int) == 43) = false) (f1 : ((s[0].toNat : Int) == 45) = false) (f2 : ((s[0].toNat : Int) == 42) = false) (f3 : ((s[0].toNat : Int) == 47) = false) (f4 : ((s[0].toNat : Int) == 37) = false) (f5 : ((s[0].toNat : Int) == 60) = false) (f6 : ((s[0].toNat : Int) == 62) = false) (f7 : ((s[0].toNat : Int) == 33) = false) (f8 : ((s[0].toNat : Int) == 61) = true) : Calls Tryz.prog 65 #[.string s] w fun e w' => e = .returned (.int .i64 1) ∧ w = w' := by
 have h2 : (2 : Int) ≤ s.size := by omega
 have h3 : 2 ≤ s.size := by omega
 go_enter Tryz.func65, Tryz.ntmps65
 go_wp2
 go_ret
 exact ⟨rfl, rfl⟩

theorem sign1_9_0 (s X : ByteArray) (w : World) (h0 : 0 < s.size) (h1 : ¬ 1 < s.size) (f0 : ((s[0].toNat : Int) == 43) = false) (f1 : ((s[0].toNat : Int) == 45) = false) (f2 : ((s[0].toNat : Int) == 42) = false) (f3 : ((s[0].toNat : Int) == 47) = false) (f4 : ((s[0].toNat : Int) == 37) = false) (f5 : ((s[0].toNat : Int) == 60) = false) (f6 : ((s[0].toNat : Int) == 62) = false) (f7 : ((s[0].toNat : Int) == 33) = false) (f8 : ((s[0].toNat : Int) == 61) = false) (f9 : ((s[0].toNat : Int) == 40) = true) : Calls Tryz.prog 65 #[.string s] w fun e w' => e = .returned (.int .i64 1) ∧ w = w' := by
 have h2 : ¬ (1 : Int) < s.size := by omega
 go_enter Tryz.func65, Tryz.ntmps65
 go_wp2
 go_ret
 exact ⟨rfl, rfl⟩

theorem sign1_9_1 (s X : ByteArray) (w : World) (h0 : 0 < s.size) (h1 : 1 < s.size) (hX : s.extract 0 2 = X) (e0 : (X.toList == [38, 38]) = false) (e1 : (X.toList == [124, 124]) = false) (e2 : (X.toList == [61, 61]) = false) (e3 : (X.toList == [33, 61]) = false) (e4 : (X.toList == [60, 61]) = false) (e5 : (X.toList == [62, 61]) = false) (f0 : ((s[0].toNat : Int) == 43) = false) (f1 : ((s[0].toNat : Int) == 45) = false) (f2 : ((s[0].toNat : Int) == 42) = false) (f3 : ((s[0].toNat : Int) == 47) = false) (f4 : ((s[0].toNat : Int) == 37) = false) (f5 : ((s[0].toNat : Int) == 60) = false) (f6 : ((s[0].toNat : Int) == 62) = false) (f7 : ((s[0].toNat : Int) == 33) = false) (f8 : ((s[0].toNat : Int) == 61) = false) (f9 : ((s[0].toNat : Int) == 40) = true) : Calls Tryz.prog 65 #[.string s] w fun e w' => e = .returned (.int .i64 1) ∧ w = w' := by
 have h2 : (2 : Int) ≤ s.size := by omega
 have h3 : 2 ≤ s.size := by omega
 go_enter Tryz.func65, Tryz.ntmps65
 go_wp2
 go_ret
 exact ⟨rfl, rfl⟩

theorem sign1_10_0 (s X : ByteArray) (w : World) (h0 : 0 < s.size) (h1 : ¬ 1 < s.size) (f0 : ((s[0].toNat : Int) == 43) = false) (f1 : ((s[0].toNat : Int) == 45) = false) (f2 : ((s[0].toNat : Int) == 42) = false) (f3 : ((s[0].toNat : Int) == 47) = false) (f4 : ((s[0].toNat : Int) == 37) = false) (f5 : ((s[0].toNat : Int) == 60) = false) (f6 : ((s[0].toNat : Int) == 62) = false) (f7 : ((s[0].toNat : Int) == 33) = false) (f8 : ((s[0].toNat : Int) == 61) = false) (f9 : ((s[0].toNat : Int) == 40) = false) (f10 : ((s[0].toNat : Int) == 41) = true) : Calls Tryz.prog 65 #[.string s] w fun e w' => e = .returned (.int .i64 1) ∧ w = w' := by
 have h2 : ¬ (1 : Int) < s.size := by omega
 go_enter Tryz.func65, Tryz.ntmps65
 go_wp2
 go_ret
 exact ⟨rfl, rfl⟩

theorem sign1_10_1 (s X : ByteArray) (w : World) (h0 : 0 < s.size) (h1 : 1 < s.size) (hX : s.extract 0 2 = X) (e0 : (X.toList == [38, 38]) = false) (e1 : (X.toList == [124, 124]) = false) (e2 : (X.toList == [61, 61]) = false) (e3 : (X.toList == [33, 61]) = false) (e4 : (X.toList == [60, 61]) = false) (e5 : (X.toList == [62, 61]) = false) (f0 : ((s[0].toNat : Int) == 43) = false) (f1 : ((s[0].toNat : Int) == 45) = false) (f2 : ((s[0].toNat : Int) == 42) = false) (f3 : ((s[0].toNat : Int) == 47) = false) (f4 : ((s[0].toNat : Int) == 37) = false) (f5 : ((s[0].toNat : Int) == 60) = false) (f6 : ((s[0].toNat : Int) == 62) = false) (f7 : ((s[0].toNat : Int) == 33) = false) (f8 : ((s[0].toNat : Int) == 61) = false) (f9 : ((s[0].toNat : Int) == 40) = false) (f10 : ((s[0].toNat : Int) == 41) = true) : Calls Tryz.prog 65 #[.string s] w fun e w' => e = .returned (.int .i64 1) ∧ w = w' := by
 have h2 : (2 : Int) ≤ s.size := by omega
 have h3 : 2 ≤ s.size := by omega
 go_enter Tryz.func65, Tryz.ntmps65
 go_wp2
 go_ret
 exact ⟨rfl, rfl⟩

theorem sign1_11_0 (s X : ByteArray) (w : World) (h0 : 0 < s.size) (h1 : ¬ 1 < s.size) (f0 : ((s[0].toNat : Int) == 43) = false) (f1 : ((s[0].toNat : Int) == 45) = false) (f2 : ((s[0].toNat : Int) == 42) = false) (f3 : ((s[0].toNat : Int) == 47) = false) (f4 : ((s[0].toNat : Int) == 37) = false) (f5 : ((s[0].toNat : Int) == 60) = false) (f6 : ((s[0].toNat : Int) == 62) = false) (f7 : ((s[0].toNat : Int) == 33) = false) (f8 : ((s[0].toNat : Int) == 61) = false) (f9 : ((s[0].toNat : Int) == 40) = false) (f10 : ((s[0].toNat : Int) == 41) = false) (f11 : ((s[0].toNat : Int) == 123) = true) : Calls Tryz.prog 65 #[.string s] w fun e w' => e = .returned (.int .i64 1) ∧ w = w' := by
 have h2 : ¬ (1 : Int) < s.size := by omega
 go_enter Tryz.func65, Tryz.ntmps65
 go_wp2
 go_ret
 exact ⟨rfl, rfl⟩

theorem sign1_11_1 (s X : ByteArray) (w : World) (h0 : 0 < s.size) (h1 : 1 < s.size) (hX : s.extract 0 2 = X) (e0 : (X.toList == [38, 38]) = false) (e1 : (X.toList == [124, 124]) = false) (e2 : (X.toList == [61, 61]) = false) (e3 : (X.toList == [33, 61]) = false) (e4 : (X.toList == [60, 61]) = false) (e5 : (X.toList == [62, 61]) = false) (f0 : ((s[0].toNat : Int) == 43) = false) (f1 : ((s[0].toNat : Int) == 45) = false) (f2 : ((s[0].toNat : Int) == 42) = false) (f3 : ((s[0].toNat : Int) == 47) = false) (f4 : ((s[0].toNat : Int) == 37) = false) (f5 : ((s[0].toNat : Int) == 60) = false) (f6 : ((s[0].toNat : Int) == 62) = false) (f7 : ((s[0].toNat : Int) == 33) = false) (f8 : ((s[0].toNat : Int) == 61) = false) (f9 : ((s[0].toNat : Int) == 40) = false) (f10 : ((s[0].toNat : Int) == 41) = false) (f11 : ((s[0].toNat : Int) == 123) = true) : Calls Tryz.prog 65 #[.string s] w fun e w' => e = .returned (.int .i64 1) ∧ w = w' := by
 have h2 : (2 : Int) ≤ s.size := by omega
 have h3 : 2 ≤ s.size := by omega
 go_enter Tryz.func65, Tryz.ntmps65
 go_wp2
 go_ret
 exact ⟨rfl, rfl⟩

theorem sign1_12_0 (s X : ByteArray) (w : World) (h0 : 0 < s.size) (h1 : ¬ 1 < s.size) (f0 : ((s[0].toNat : Int) == 43) = false) (f1 : ((s[0].toNat : Int) == 45) = false) (f2 : ((s[0].toNat : Int) == 42) = false) (f3 : ((s[0].toNat : Int) == 47) = false) (f4 : ((s[0].toNat : Int) == 37) = false) (f5 : ((s[0].toNat : Int) == 60) = false) (f6 : ((s[0].toNat : Int) == 62) = false) (f7 : ((s[0].toNat : Int) == 33) = false) (f8 : ((s[0].toNat : Int) == 61) = false) (f9 : ((s[0].toNat : Int) == 40) = false) (f10 : ((s[0].toNat : Int) == 41) = false) (f11 : ((s[0].toNat : Int) == 123) = false) (f12 : ((s[0].toNat : Int) == 125) = true) : Calls Tryz.prog 65 #[.string s] w fun e w' => e = .returned (.int .i64 1) ∧ w = w' := by
 have h2 : ¬ (1 : Int) < s.size := by omega
 go_enter Tryz.func65, Tryz.ntmps65
 go_wp2
 go_ret
 exact ⟨rfl, rfl⟩

theorem sign1_12_1 (s X : ByteArray) (w : World) (h0 : 0 < s.size) (h1 : 1 < s.size) (hX : s.extract 0 2 = X) (e0 : (X.toList == [38, 38]) = false) (e1 : (X.toList == [124, 124]) = false) (e2 : (X.toList == [61, 61]) = false) (e3 : (X.toList == [33, 61]) = false) (e4 : (X.toList == [60, 61]) = false) (e5 : (X.toList == [62, 61]) = false) (f0 : ((s[0].toNat : Int) == 43) = false) (f1 : ((s[0].toNat : Int) == 45) = false) (f2 : ((s[0].toNat : Int) == 42) = false) (f3 : ((s[0].toNat : Int) == 47) = false) (f4 : ((s[0].toNat : Int) == 37) = false) (f5 : ((s[0].toNat : Int) == 60) = false) (f6 : ((s[0].toNat : Int) == 62) = false) (f7 : ((s[0].toNat : Int) == 33) = false) (f8 : ((s[0].toNat : Int) == 61) = false) (f9 : ((s[0].toNat : Int) == 40) = false) (f10 : ((s[0].toNat : Int) == 41) = false) (f11 : ((s[0].toNat : Int) == 123) = false) (f12 : ((s[0].toNat : Int) == 125) = true) : Calls Tryz.prog 65 #[.string s] w fun e w' => e = .returned (.int .i64 1) ∧ w = w' := by
 have h2 : (2 : Int) ≤ s.size := by omega
 have h3 : 2 ≤ s.size := by omega
 go_enter Tryz.func65, Tryz.ntmps65
 go_wp2
 go_ret
 exact ⟨rfl, rfl⟩

theorem sign1_13_0 (s X : ByteArray) (w : World) (h0 : 0 < s.size) (h1 : ¬ 1 < s.size) (f0 : ((s[0].toNat : Int) == 43) = false) (f1 : ((s[0].toNat : Int) == 45) = false) (f2 : ((s[0].toNat : Int) == 42) = false) (f3 : ((s[0].toNat : Int) == 47) = false) (f4 : ((s[0].toNat : Int) == 37) = false) (f5 : ((s[0].toNat : Int) == 60) = false) (f6 : ((s[0].toNat : Int) == 62) = false) (f7 : ((s[0].toNat : Int) == 33) = false) (f8 : ((s[0].toNat : Int) == 61) = false) (f9 : ((s[0].toNat : Int) == 40) = false) (f10 : ((s[0].toNat : Int) == 41) = false) (f11 : ((s[0].toNat : Int) == 123) = false) (f12 : ((s[0].toNat : Int) == 125) = false) (f13 : ((s[0].toNat : Int) == 91) = true) : Calls Tryz.prog 65 #[.string s] w fun e w' => e = .returned (.int .i64 1) ∧ w = w' := by
 have h2 : ¬ (1 : Int) < s.size := by omega
 go_enter Tryz.func65, Tryz.ntmps65
 go_wp2
 go_ret
 exact ⟨rfl, rfl⟩

theorem sign1_13_1 (s X : ByteArray) (w : World) (h0 : 0 < s.size) (h1 : 1 < s.size) (hX : s.extract 0 2 = X) (e0 : (X.toList == [38, 38]) = false) (e1 : (X.toList == [124, 124]) = false) (e2 : (X.toList == [61, 61]) = false) (e3 : (X.toList == [33, 61]) = false) (e4 : (X.toList == [60, 61]) = false) (e5 : (X.toList == [62, 61]) = false) (f0 : ((s[0].toNat : Int) == 43) = false) (f1 : ((s[0].toNat : Int) == 45) = false) (f2 : ((s[0].toNat : Int) == 42) = false) (f3 : ((s[0].toNat : Int) == 47) = false) (f4 : ((s[0].toNat : Int) == 37) = false) (f5 : ((s[0].toNat : Int) == 60) = false) (f6 : ((s[0].toNat : Int) == 62) = false) (f7 : ((s[0].toNat : Int) == 33) = false) (f8 : ((s[0].toNat : Int) == 61) = false) (f9 : ((s[0].toNat : Int) == 40) = false) (f10 : ((s[0].toNat : Int) == 41) = false) (f11 : ((s[0].toNat : Int) == 123) = false) (f12 : ((s[0].toNat : Int) == 125) = false) (f13 : ((s[0].toNat : Int) == 91) = true) : Calls Tryz.prog 65 #[.string s] w fun e w' => e = .returned (.int .i64 1) ∧ w = w' := by
 have h2 : (2 : Int) ≤ s.size := by omega
 have h3 : 2 ≤ s.size := by omega
 go_enter Tryz.func65, Tryz.ntmps65
 go_wp2
 go_ret
 exact ⟨rfl, rfl⟩

theorem sign1_14_0 (s X : ByteArray) (w : World) (h0 : 0 < s.size) (h1 : ¬ 1 < s.size) (f0 : ((s[0].toNat : Int) == 43) = false) (f1 : ((s[0].toNat : Int) == 45) = false) (f2 : ((s[0].toNat : Int) == 42) = false) (f3 : ((s[0].toNat : Int) == 47) = false) (f4 : ((s[0].toNat : Int) == 37) = false) (f5 : ((s[0].toNat : Int) == 60) = false) (f6 : ((s[0].toNat : Int) == 62) = false) (f7 : ((s[0].toNat : Int) == 33) = false) (f8 : ((s[0].toNat : Int) == 61) = false) (f9 : ((s[0].toNat : Int) == 40) = false) (f10 : ((s[0].toNat : Int) == 41) = false) (f11 : ((s[0].toNat : Int) == 123) = false) (f12 : ((s[0].toNat : Int) == 125) = false) (f13 : ((s[0].toNat : Int) == 91) = false) (f14 : ((s[0].toNat : Int) == 93) = true) : Calls Tryz.prog 65 #[.string s] w fun e w' => e = .returned (.int .i64 1) ∧ w = w' := by
 have h2 : ¬ (1 : Int) < s.size := by omega
 go_enter Tryz.func65, Tryz.ntmps65
 go_wp2
 go_ret
 exact ⟨rfl, rfl⟩

theorem sign1_14_1 (s X : ByteArray) (w : World) (h0 : 0 < s.size) (h1 : 1 < s.size) (hX : s.extract 0 2 = X) (e0 : (X.toList == [38, 38]) = false) (e1 : (X.toList == [124, 124]) = false) (e2 : (X.toList == [61, 61]) = false) (e3 : (X.toList == [33, 61]) = false) (e4 : (X.toList == [60, 61]) = false) (e5 : (X.toList == [62, 61]) = false) (f0 : ((s[0].toNat : Int) == 43) = false) (f1 : ((s[0].toNat : Int) == 45) = false) (f2 : ((s[0].toNat : Int) == 42) = false) (f3 : ((s[0].toNat : Int) == 47) = false) (f4 : ((s[0].toNat : Int) == 37) = false) (f5 : ((s[0].toNat : Int) == 60) = false) (f6 : ((s[0].toNat : Int) == 62) = false) (f7 : ((s[0].toNat : Int) == 33) = false) (f8 : ((s[0].toNat : Int) == 61) = false) (f9 : ((s[0].toNat : Int) == 40) = false) (f10 : ((s[0].toNat : Int) == 41) = false) (f11 : ((s[0].toNat : Int) == 123) = false) (f12 : ((s[0].toNat : Int) == 125) = false) (f13 : ((s[0].toNat : Int) == 91) = false) (f14 : ((s[0].toNat : Int) == 93) = true) : Calls Tryz.prog 65 #[.string s] w fun e w' => e = .returned (.int .i64 1) ∧ w = w' := by
 have h2 : (2 : Int) ≤ s.size := by omega
 have h3 : 2 ≤ s.size := by omega
 go_enter Tryz.func65, Tryz.ntmps65
 go_wp2
 go_ret
 exact ⟨rfl, rfl⟩

theorem sign1_15_0 (s X : ByteArray) (w : World) (h0 : 0 < s.size) (h1 : ¬ 1 < s.size) (f0 : ((s[0].toNat : Int) == 43) = false) (f1 : ((s[0].toNat : Int) == 45) = false) (f2 : ((s[0].toNat : Int) == 42) = false) (f3 : ((s[0].toNat : Int) == 47) = false) (f4 : ((s[0].toNat : Int) == 37) = false) (f5 : ((s[0].toNat : Int) == 60) = false) (f6 : ((s[0].toNat : Int) == 62) = false) (f7 : ((s[0].toNat : Int) == 33) = false) (f8 : ((s[0].toNat : Int) == 61) = false) (f9 : ((s[0].toNat : Int) == 40) = false) (f10 : ((s[0].toNat : Int) == 41) = false) (f11 : ((s[0].toNat : Int) == 123) = false) (f12 : ((s[0].toNat : Int) == 125) = false) (f13 : ((s[0].toNat : Int) == 91) = false) (f14 : ((s[0].toNat : Int) == 93) = false) (f15 : ((s[0].toNat : Int) == 44) = true) : Calls Tryz.prog 65 #[.string s] w fun e w' => e = .returned (.int .i64 1) ∧ w = w' := by
 have h2 : ¬ (1 : Int) < s.size := by omega
 go_enter Tryz.func65, Tryz.ntmps65
 go_wp2
 go_ret
 exact ⟨rfl, rfl⟩

theorem sign1_15_1 (s X : ByteArray) (w : World) (h0 : 0 < s.size) (h1 : 1 < s.size) (hX : s.extract 0 2 = X) (e0 : (X.toList == [38, 38]) = false) (e1 : (X.toList == [124, 124]) = false) (e2 : (X.toList == [61, 61]) = false) (e3 : (X.toList == [33, 61]) = false) (e4 : (X.toList == [60, 61]) = false) (e5 : (X.toList == [62, 61]) = false) (f0 : ((s[0].toNat : Int) == 43) = false) (f1 : ((s[0].toNat : Int) == 45) = false) (f2 : ((s[0].toNat : Int) == 42) = false) (f3 : ((s[0].toNat : Int) == 47) = false) (f4 : ((s[0].toNat : Int) == 37) = false) (f5 : ((s[0].toNat : Int) == 60) = false) (f6 : ((s[0].toNat : Int) == 62) = false) (f7 : ((s[0].toNat : Int) == 33) = false) (f8 : ((s[0].toNat : Int) == 61) = false) (f9 : ((s[0].toNat : Int) == 40) = false) (f10 : ((s[0].toNat : Int) == 41) = false) (f11 : ((s[0].toNat : Int) == 123) = false) (f12 : ((s[0].toNat : Int) == 125) = false) (f13 : ((s[0].toNat : Int) == 91) = false) (f14 : ((s[0].toNat : Int) == 93) = false) (f15 : ((s[0].toNat : Int) == 44) = true) : Calls Tryz.prog 65 #[.string s] w fun e w' => e = .returned (.int .i64 1) ∧ w = w' := by
 have h2 : (2 : Int) ≤ s.size := by omega
 have h3 : 2 ≤ s.size := by omega
 go_enter Tryz.func65, Tryz.ntmps65
 go_wp2
 go_ret
 exact ⟨rfl, rfl⟩

theorem sign1_16_0 (s X : ByteArray) (w : World) (h0 : 0 < s.size) (h1 : ¬ 1 < s.size) (f0 : ((s[0].toNat : Int) == 43) = false) (f1 : ((s[0].toNat : Int) == 45) = false) (f2 : ((s[0].toNat : Int) == 42) = false) (f3 : ((s[0].toNat : Int) == 47) = false) (f4 : ((s[0].toNat : Int) == 37) = false) (f5 : ((s[0].toNat : Int) == 60) = false) (f6 : ((s[0].toNat : Int) == 62) = false) (f7 : ((s[0].toNat : Int) == 33) = false) (f8 : ((s[0].toNat : Int) == 61) = false) (f9 : ((s[0].toNat : Int) == 40) = false) (f10 : ((s[0].toNat : Int) == 41) = false) (f11 : ((s[0].toNat : Int) == 123) = false) (f12 : ((s[0].toNat : Int) == 125) = false) (f13 : ((s[0].toNat : Int) == 91) = false) (f14 : ((s[0].toNat : Int) == 93) = false) (f15 : ((s[0].toNat : Int) == 44) = false) (f16 : ((s[0].toNat : Int) == 59) = true) : Calls Tryz.prog 65 #[.string s] w fun e w' => e = .returned (.int .i64 1) ∧ w = w' := by
 have h2 : ¬ (1 : Int) < s.size := by omega
 go_enter Tryz.func65, Tryz.ntmps65
 go_wp2
 go_ret
 exact ⟨rfl, rfl⟩

theorem sign1_16_1 (s X : ByteArray) (w : World) (h0 : 0 < s.size) (h1 : 1 < s.size) (hX : s.extract 0 2 = X) (e0 : (X.toList == [38, 38]) = false) (e1 : (X.toList == [124, 124]) = false) (e2 : (X.toList == [61, 61]) = false) (e3 : (X.toList == [33, 61]) = false) (e4 : (X.toList == [60, 61]) = false) (e5 : (X.toList == [62, 61]) = false) (f0 : ((s[0].toNat : Int) == 43) = false) (f1 : ((s[0].toNat : Int) == 45) = false) (f2 : ((s[0].toNat : Int) == 42) = false) (f3 : ((s[0].toNat : Int) == 47) = false) (f4 : ((s[0].toNat : Int) == 37) = false) (f5 : ((s[0].toNat : Int) == 60) = false) (f6 : ((s[0].toNat : Int) == 62) = false) (f7 : ((s[0].toNat : Int) == 33) = false) (f8 : ((s[0].toNat : Int) == 61) = false) (f9 : ((s[0].toNat : Int) == 40) = false) (f10 : ((s[0].toNat : Int) == 41) = false) (f11 : ((s[0].toNat : Int) == 123) = false) (f12 : ((s[0].toNat : Int) == 125) = false) (f13 : ((s[0].toNat : Int) == 91) = false) (f14 : ((s[0].toNat : Int) == 93) = false) (f15 : ((s[0].toNat : Int) == 44) = false) (f16 : ((s[0].toNat : Int) == 59) = true) : Calls Tryz.prog 65 #[.string s] w fun e w' => e = .returned (.int .i64 1) ∧ w = w' := by
 have h2 : (2 : Int) ≤ s.size := by omega
 have h3 : 2 ≤ s.size := by omega
 go_enter Tryz.func65, Tryz.ntmps65
 go_wp2
 go_ret
 exact ⟨rfl, rfl⟩

theorem sign1_17_0 (s X : ByteArray) (w : World) (h0 : 0 < s.size) (h1 : ¬ 1 < s.size) (f0 : ((s[0].toNat : Int) == 43) = false) (f1 : ((s[0].toNat : Int) == 45) = false) (f2 : ((s[0].toNat : Int) == 42) = false) (f3 : ((s[0].toNat : Int) == 47) = false) (f4 : ((s[0].toNat : Int) == 37) = false) (f5 : ((s[0].toNat : Int) == 60) = false) (f6 : ((s[0].toNat : Int) == 62) = false) (f7 : ((s[0].toNat : Int) == 33) = false) (f8 : ((s[0].toNat : Int) == 61) = false) (f9 : ((s[0].toNat : Int) == 40) = false) (f10 : ((s[0].toNat : Int) == 41) = false) (f11 : ((s[0].toNat : Int) == 123) = false) (f12 : ((s[0].toNat : Int) == 125) = false) (f13 : ((s[0].toNat : Int) == 91) = false) (f14 : ((s[0].toNat : Int) == 93) = false) (f15 : ((s[0].toNat : Int) == 44) = false) (f16 : ((s[0].toNat : Int) == 59) = false) (f17 : ((s[0].toNat : Int) == 58) = true) : Calls Tryz.prog 65 #[.string s] w fun e w' => e = .returned (.int .i64 1) ∧ w = w' := by
 have h2 : ¬ (1 : Int) < s.size := by omega
 go_enter Tryz.func65, Tryz.ntmps65
 go_wp2
 go_ret
 exact ⟨rfl, rfl⟩

theorem sign1_17_1 (s X : ByteArray) (w : World) (h0 : 0 < s.size) (h1 : 1 < s.size) (hX : s.extract 0 2 = X) (e0 : (X.toList == [38, 38]) = false) (e1 : (X.toList == [124, 124]) = false) (e2 : (X.toList == [61, 61]) = false) (e3 : (X.toList == [33, 61]) = false) (e4 : (X.toList == [60, 61]) = false) (e5 : (X.toList == [62, 61]) = false) (f0 : ((s[0].toNat : Int) == 43) = false) (f1 : ((s[0].toNat : Int) == 45) = false) (f2 : ((s[0].toNat : Int) == 42) = false) (f3 : ((s[0].toNat : Int) == 47) = false) (f4 : ((s[0].toNat : Int) == 37) = false) (f5 : ((s[0].toNat : Int) == 60) = false) (f6 : ((s[0].toNat : Int) == 62) = false) (f7 : ((s[0].toNat : Int) == 33) = false) (f8 : ((s[0].toNat : Int) == 61) = false) (f9 : ((s[0].toNat : Int) == 40) = false) (f10 : ((s[0].toNat : Int) == 41) = false) (f11 : ((s[0].toNat : Int) == 123) = false) (f12 : ((s[0].toNat : Int) == 125) = false) (f13 : ((s[0].toNat : Int) == 91) = false) (f14 : ((s[0].toNat : Int) == 93) = false) (f15 : ((s[0].toNat : Int) == 44) = false) (f16 : ((s[0].toNat : Int) == 59) = false) (f17 : ((s[0].toNat : Int) == 58) = true) : Calls Tryz.prog 65 #[.string s] w fun e w' => e = .returned (.int .i64 1) ∧ w = w' := by
 have h2 : (2 : Int) ≤ s.size := by omega
 have h3 : 2 ≤ s.size := by omega
 go_enter Tryz.func65, Tryz.ntmps65
 go_wp2
 go_ret
 exact ⟨rfl, rfl⟩

theorem sign1_18_0 (s X : ByteArray) (w : World) (h0 : 0 < s.size) (h1 : ¬ 1 < s.size) (f0 : ((s[0].toNat : Int) == 43) = false) (f1 : ((s[0].toNat : Int) == 45) = false) (f2 : ((s[0].toNat : Int) == 42) = false) (f3 : ((s[0].toNat : Int) == 47) = false) (f4 : ((s[0].toNat : Int) == 37) = false) (f5 : ((s[0].toNat : Int) == 60) = false) (f6 : ((s[0].toNat : Int) == 62) = false) (f7 : ((s[0].toNat : Int) == 33) = false) (f8 : ((s[0].toNat : Int) == 61) = false) (f9 : ((s[0].toNat : Int) == 40) = false) (f10 : ((s[0].toNat : Int) == 41) = false) (f11 : ((s[0].toNat : Int) == 123) = false) (f12 : ((s[0].toNat : Int) == 125) = false) (f13 : ((s[0].toNat : Int) == 91) = false) (f14 : ((s[0].toNat : Int) == 93) = false) (f15 : ((s[0].toNat : Int) == 44) = false) (f16 : ((s[0].toNat : Int) == 59) = false) (f17 : ((s[0].toNat : Int) == 58) = false) (f18 : ((s[0].toNat : Int) == 46) = true) : Calls Tryz.prog 65 #[.string s] w fun e w' => e = .returned (.int .i64 1) ∧ w = w' := by
 have h2 : ¬ (1 : Int) < s.size := by omega
 go_enter Tryz.func65, Tryz.ntmps65
 go_wp2
 go_ret
 exact ⟨rfl, rfl⟩

theorem sign1_18_1 (s X : ByteArray) (w : World) (h0 : 0 < s.size) (h1 : 1 < s.size) (hX : s.extract 0 2 = X) (e0 : (X.toList == [38, 38]) = false) (e1 : (X.toList == [124, 124]) = false) (e2 : (X.toList == [61, 61]) = false) (e3 : (X.toList == [33, 61]) = false) (e4 : (X.toList == [60, 61]) = false) (e5 : (X.toList == [62, 61]) = false) (f0 : ((s[0].toNat : Int) == 43) = false) (f1 : ((s[0].toNat : Int) == 45) = false) (f2 : ((s[0].toNat : Int) == 42) = false) (f3 : ((s[0].toNat : Int) == 47) = false) (f4 : ((s[0].toNat : Int) == 37) = false) (f5 : ((s[0].toNat : Int) == 60) = false) (f6 : ((s[0].toNat : Int) == 62) = false) (f7 : ((s[0].toNat : Int) == 33) = false) (f8 : ((s[0].toNat : Int) == 61) = false) (f9 : ((s[0].toNat : Int) == 40) = false) (f10 : ((s[0].toNat : Int) == 41) = false) (f11 : ((s[0].toNat : Int) == 123) = false) (f12 : ((s[0].toNat : Int) == 125) = false) (f13 : ((s[0].toNat : Int) == 91) = false) (f14 : ((s[0].toNat : Int) == 93) = false) (f15 : ((s[0].toNat : Int) == 44) = false) (f16 : ((s[0].toNat : Int) == 59) = false) (f17 : ((s[0].toNat : Int) == 58) = false) (f18 : ((s[0].toNat : Int) == 46) = true) : Calls Tryz.prog 65 #[.string s] w fun e w' => e = .returned (.int .i64 1) ∧ w = w' := by
 have h2 : (2 : Int) ≤ s.size := by omega
 have h3 : 2 ≤ s.size := by omega
 go_enter Tryz.func65, Tryz.ntmps65
 go_wp2
 go_ret
 exact ⟨rfl, rfl⟩

theorem sign1_19_0 (s X : ByteArray) (w : World) (h0 : 0 < s.size) (h1 : ¬ 1 < s.size) (f0 : ((s[0].toNat : Int) == 43) = false) (f1 : ((s[0].toNat : Int) == 45) = false) (f2 : ((s[0].toNat : Int) == 42) = false) (f3 : ((s[0].toNat : Int) == 47) = false) (f4 : ((s[0].toNat : Int) == 37) = false) (f5 : ((s[0].toNat : Int) == 60) = false) (f6 : ((s[0].toNat : Int) == 62) = false) (f7 : ((s[0].toNat : Int) == 33) = false) (f8 : ((s[0].toNat : Int) == 61) = false) (f9 : ((s[0].toNat : Int) == 40) = false) (f10 : ((s[0].toNat : Int) == 41) = false) (f11 : ((s[0].toNat : Int) == 123) = false) (f12 : ((s[0].toNat : Int) == 125) = false) (f13 : ((s[0].toNat : Int) == 91) = false) (f14 : ((s[0].toNat : Int) == 93) = false) (f15 : ((s[0].toNat : Int) == 44) = false) (f16 : ((s[0].toNat : Int) == 59) = false) (f17 : ((s[0].toNat : Int) == 58) = false) (f18 : ((s[0].toNat : Int) == 46) = false) : Calls Tryz.prog 65 #[.string s] w fun e w' => e = .returned (.int .i64 0) ∧ w = w' := by
 have h2 : ¬ (1 : Int) < s.size := by omega
 go_enter Tryz.func65, Tryz.ntmps65
 go_wp2
 go_ret
 exact ⟨rfl, rfl⟩

theorem sign1_19_1 (s X : ByteArray) (w : World) (h0 : 0 < s.size) (h1 : 1 < s.size) (hX : s.extract 0 2 = X) (e0 : (X.toList == [38, 38]) = false) (e1 : (X.toList == [124, 124]) = false) (e2 : (X.toList == [61, 61]) = false) (e3 : (X.toList == [33, 61]) = false) (e4 : (X.toList == [60, 61]) = false) (e5 : (X.toList == [62, 61]) = false) (f0 : ((s[0].toNat : Int) == 43) = false) (f1 : ((s[0].toNat : Int) == 45) = false) (f2 : ((s[0].toNat : Int) == 42) = false) (f3 : ((s[0].toNat : Int) == 47) = false) (f4 : ((s[0].toNat : Int) == 37) = false) (f5 : ((s[0].toNat : Int) == 60) = false) (f6 : ((s[0].toNat : Int) == 62) = false) (f7 : ((s[0].toNat : Int) == 33) = false) (f8 : ((s[0].toNat : Int) == 61) = false) (f9 : ((s[0].toNat : Int) == 40) = false) (f10 : ((s[0].toNat : Int) == 41) = false) (f11 : ((s[0].toNat : Int) == 123) = false) (f12 : ((s[0].toNat : Int) == 125) = false) (f13 : ((s[0].toNat : Int) == 91) = false) (f14 : ((s[0].toNat : Int) == 93) = false) (f15 : ((s[0].toNat : Int) == 44) = false) (f16 : ((s[0].toNat : Int) == 59) = false) (f17 : ((s[0].toNat : Int) == 58) = false) (f18 : ((s[0].toNat : Int) == 46) = false) : Calls Tryz.prog 65 #[.string s] w fun e w' => e = .returned (.int .i64 0) ∧ w = w' := by
 have h2 : (2 : Int) ≤ s.size := by omega
 have h3 : 2 ≤ s.size := by omega
 go_enter Tryz.func65, Tryz.ntmps65
 go_wp2
 go_ret
 exact ⟨rfl, rfl⟩

theorem sgn_two {l : List UInt8} (h : l.take 2 ∈ twos) : sgn l = 2 := by rw [sgn, if_pos h]
theorem sgn_one {l : List UInt8} (h : ¬ l.take 2 ∈ twos) (h2 : l.headD 0 ∈ ones) : sgn l = 1 := by rw [sgn, if_neg h, if_pos h2]
theorem sgn_no {l : List UInt8} (h : ¬ l.take 2 ∈ twos) (h2 : ¬ l.headD 0 ∈ ones) : sgn l = 0 := by rw [sgn, if_neg h, if_neg h2]
theorem str_eq {s : ByteArray} {l : List UInt8} (h : s.data.toList = l) : (s.toList == l) = true := by rw [ByteArray.toList_eq, h]; simp
theorem short_twos {l : List UInt8} (h : ¬ 1 < l.length) : ¬ l.take 2 ∈ twos := by
 intro hm
 have h6 : ∀ x ∈ twos, x.length = 2 := by decide
 have := h6 _ hm
 rw [List.length_take] at this; omega

theorem signSize_any (s : ByteArray) (w : World) (h0 : 0 < s.size) : Calls Tryz.prog 65 #[.string s] w fun e w' => e = .returned (.int .i64 (sgn s.data.toList : Nat)) ∧ w = w' := by
 have hhd := head_list s h0
 by_cases h1 : 1 < s.size
 ·have hX : (s.extract 0 2).data.toList = s.data.toList.take 2 := by rw [ext_list]; simp
  by_cases h0x : s.data.toList.take 2 = [38, 38]
  ·rw [sgn_two (by rw [h0x]; decide)]
   exact sign2_0 s _ w h1 rfl  (str_eq (by rw [hX]; exact h0x))
  by_cases h1x : s.data.toList.take 2 = [124, 124]
  ·rw [sgn_two (by rw [h1x]; decide)]
   exact sign2_1 s _ w h1 rfl (str_ne (by rw [hX]; exact h0x)) (str_eq (by rw [hX]; exact h1x))
  by_cases h2x : s.data.toList.take 2 = [61, 61]
  ·rw [sgn_two (by rw [h2x]; decide)]
   exact sign2_2 s _ w h1 rfl (str_ne (by rw [hX]; exact h0x)) (str_ne (by rw [hX]; exact h1x)) (str_eq (by rw [hX]; exact h2x))
  by_cases h3x : s.data.toList.take 2 = [33, 61]
  ·rw [sgn_two (by rw [h3x]; decide)]
   exact sign2_3 s _ w h1 rfl (str_ne (by rw [hX]; exact h0x)) (str_ne (by rw [hX]; exact h1x)) (str_ne (by rw [hX]; exact h2x)) (str_eq (by rw [hX]; exact h3x))
  by_cases h4x : s.data.toList.take 2 = [60, 61]
  ·rw [sgn_two (by rw [h4x]; decide)]
   exact sign2_4 s _ w h1 rfl (str_ne (by rw [hX]; exact h0x)) (str_ne (by rw [hX]; exact h1x)) (str_ne (by rw [hX]; exact h2x)) (str_ne (by rw [hX]; exact h3x)) (str_eq (by rw [hX]; exact h4x))
  by_cases h5x : s.data.toList.take 2 = [62, 61]
  ·rw [sgn_two (by rw [h5x]; decide)]
   exact sign2_5 s _ w h1 rfl (str_ne (by rw [hX]; exact h0x)) (str_ne (by rw [hX]; exact h1x)) (str_ne (by rw [hX]; exact h2x)) (str_ne (by rw [hX]; exact h3x)) (str_ne (by rw [hX]; exact h4x)) (str_eq (by rw [hX]; exact h5x))
  have hno : ¬ s.data.toList.take 2 ∈ twos := by simp [twos, h0x, h1x, h2x, h3x, h4x, h5x]
  by_cases g0 : s[0] = 43
  ·rw [sgn_one hno (by rw [hhd, g0]; decide)]
   exact sign1_0_1 s _ w h0 h1 rfl (str_ne (by rw [hX]; exact h0x)) (str_ne (by rw [hX]; exact h1x)) (str_ne (by rw [hX]; exact h2x)) (str_ne (by rw [hX]; exact h3x)) (str_ne (by rw [hX]; exact h4x)) (str_ne (by rw [hX]; exact h5x))  (by rw [g0]; rfl)
  by_cases g1 : s[0] = 45
  ·rw [sgn_one hno (by rw [hhd, g1]; decide)]
   exact sign1_1_1 s _ w h0 h1 rfl (str_ne (by rw [hX]; exact h0x)) (str_ne (by rw [hX]; exact h1x)) (str_ne (by rw [hX]; exact h2x)) (str_ne (by rw [hX]; exact h3x)) (str_ne (by rw [hX]; exact h4x)) (str_ne (by rw [hX]; exact h5x)) (byte_ne (n := 43) (by decide) g0) (by rw [g1]; rfl)
  by_cases g2 : s[0] = 42
  ·rw [sgn_one hno (by rw [hhd, g2]; decide)]
   exact sign1_2_1 s _ w h0 h1 rfl (str_ne (by rw [hX]; exact h0x)) (str_ne (by rw [hX]; exact h1x)) (str_ne (by rw [hX]; exact h2x)) (str_ne (by rw [hX]; exact h3x)) (str_ne (by rw [hX]; exact h4x)) (str_ne (by rw [hX]; exact h5x)) (byte_ne (n := 43) (by decide) g0) (byte_ne (n := 45) (by decide) g1) (by rw [g2]; rfl)
  by_cases g3 : s[0] = 47
  ·rw [sgn_one hno (by rw [hhd, g3]; decide)]
   exact sign1_3_1 s _ w h0 h1 rfl (str_ne (by rw [hX]; exact h0x)) (str_ne (by rw [hX]; exact h1x)) (str_ne (by rw [hX]; exact h2x)) (str_ne (by rw [hX]; exact h3x)) (str_ne (by rw [hX]; exact h4x)) (str_ne (by rw [hX]; exact h5x)) (byte_ne (n := 43) (by decide) g0) (byte_ne (n := 45) (by decide) g1) (byte_ne (n := 42) (by decide) g2) (by rw [g3]; rfl)
  by_cases g4 : s[0] = 37
  ·rw [sgn_one hno (by rw [hhd, g4]; decide)]
   exact sign1_4_1 s _ w h0 h1 rfl (str_ne (by rw [hX]; exact h0x)) (str_ne (by rw [hX]; exact h1x)) (str_ne (by rw [hX]; exact h2x)) (str_ne (by rw [hX]; exact h3x)) (str_ne (by rw [hX]; exact h4x)) (str_ne (by rw [hX]; exact h5x)) (byte_ne (n := 43) (by decide) g0) (byte_ne (n := 45) (by decide) g1) (byte_ne (n := 42) (by decide) g2) (byte_ne (n := 47) (by decide) g3) (by rw [g4]; rfl)
  by_cases g5 : s[0] = 60
  ·rw [sgn_one hno (by rw [hhd, g5]; decide)]
   exact sign1_5_1 s _ w h0 h1 rfl (str_ne (by rw [hX]; exact h0x)) (str_ne (by rw [hX]; exact h1x)) (str_ne (by rw [hX]; exact h2x)) (str_ne (by rw [hX]; exact h3x)) (str_ne (by rw [hX]; exact h4x)) (str_ne (by rw [hX]; exact h5x)) (byte_ne (n := 43) (by decide) g0) (byte_ne (n := 45) (by decide) g1) (byte_ne (n := 42) (by decide) g2) (byte_ne (n := 47) (by decide) g3) (byte_ne (n := 37) (by decide) g4) (by rw [g5]; rfl)
  by_cases g6 : s[0] = 62
  ·rw [sgn_one hno (by rw [hhd, g6]; decide)]
   exact sign1_6_1 s _ w h0 h1 rfl (str_ne (by rw [hX]; exact h0x)) (str_ne (by rw [hX]; exact h1x)) (str_ne (by rw [hX]; exact h2x)) (str_ne (by rw [hX]; exact h3x)) (str_ne (by rw [hX]; exact h4x)) (str_ne (by rw [hX]; exact h5x)) (byte_ne (n := 43) (by decide) g0) (byte_ne (n := 45) (by decide) g1) (byte_ne (n := 42) (by decide) g2) (byte_ne (n := 47) (by decide) g3) (byte_ne (n := 37) (by decide) g4) (byte_ne (n := 60) (by decide) g5) (by rw [g6]; rfl)
  by_cases g7 : s[0] = 33
  ·rw [sgn_one hno (by rw [hhd, g7]; decide)]
   exact sign1_7_1 s _ w h0 h1 rfl (str_ne (by rw [hX]; exact h0x)) (str_ne (by rw [hX]; exact h1x)) (str_ne (by rw [hX]; exact h2x)) (str_ne (by rw [hX]; exact h3x)) (str_ne (by rw [hX]; exact h4x)) (str_ne (by rw [hX]; exact h5x)) (byte_ne (n := 43) (by decide) g0) (byte_ne (n := 45) (by decide) g1) (byte_ne (n := 42) (by decide) g2) (byte_ne (n := 47) (by decide) g3) (byte_ne (n := 37) (by decide) g4) (byte_ne (n := 60) (by decide) g5) (byte_ne (n := 62) (by decide) g6) (by rw [g7]; rfl)
  by_cases g8 : s[0] = 61
  ·rw [sgn_one hno (by rw [hhd, g8]; decide)]
   exact sign1_8_1 s _ w h0 h1 rfl (str_ne (by rw [hX]; exact h0x)) (str_ne (by rw [hX]; exact h1x)) (str_ne (by rw [hX]; exact h2x)) (str_ne (by rw [hX]; exact h3x)) (str_ne (by rw [hX]; exact h4x)) (str_ne (by rw [hX]; exact h5x)) (byte_ne (n := 43) (by decide) g0) (byte_ne (n := 45) (by decide) g1) (byte_ne (n := 42) (by decide) g2) (byte_ne (n := 47) (by decide) g3) (byte_ne (n := 37) (by decide) g4) (byte_ne (n := 60) (by decide) g5) (byte_ne (n := 62) (by decide) g6) (byte_ne (n := 33) (by decide) g7) (by rw [g8]; rfl)
  by_cases g9 : s[0] = 40
  ·rw [sgn_one hno (by rw [hhd, g9]; decide)]
   exact sign1_9_1 s _ w h0 h1 rfl (str_ne (by rw [hX]; exact h0x)) (str_ne (by rw [hX]; exact h1x)) (str_ne (by rw [hX]; exact h2x)) (str_ne (by rw [hX]; exact h3x)) (str_ne (by rw [hX]; exact h4x)) (str_ne (by rw [hX]; exact h5x)) (byte_ne (n := 43) (by decide) g0) (byte_ne (n := 45) (by decide) g1) (byte_ne (n := 42) (by decide) g2) (byte_ne (n := 47) (by decide) g3) (byte_ne (n := 37) (by decide) g4) (byte_ne (n := 60) (by decide) g5) (byte_ne (n := 62) (by decide) g6) (byte_ne (n := 33) (by decide) g7) (byte_ne (n := 61) (by decide) g8) (by rw [g9]; rfl)
  by_cases g10 : s[0] = 41
  ·rw [sgn_one hno (by rw [hhd, g10]; decide)]
   exact sign1_10_1 s _ w h0 h1 rfl (str_ne (by rw [hX]; exact h0x)) (str_ne (by rw [hX]; exact h1x)) (str_ne (by rw [hX]; exact h2x)) (str_ne (by rw [hX]; exact h3x)) (str_ne (by rw [hX]; exact h4x)) (str_ne (by rw [hX]; exact h5x)) (byte_ne (n := 43) (by decide) g0) (byte_ne (n := 45) (by decide) g1) (byte_ne (n := 42) (by decide) g2) (byte_ne (n := 47) (by decide) g3) (byte_ne (n := 37) (by decide) g4) (byte_ne (n := 60) (by decide) g5) (byte_ne (n := 62) (by decide) g6) (byte_ne (n := 33) (by decide) g7) (byte_ne (n := 61) (by decide) g8) (byte_ne (n := 40) (by decide) g9) (by rw [g10]; rfl)
  by_cases g11 : s[0] = 123
  ·rw [sgn_one hno (by rw [hhd, g11]; decide)]
   exact sign1_11_1 s _ w h0 h1 rfl (str_ne (by rw [hX]; exact h0x)) (str_ne (by rw [hX]; exact h1x)) (str_ne (by rw [hX]; exact h2x)) (str_ne (by rw [hX]; exact h3x)) (str_ne (by rw [hX]; exact h4x)) (str_ne (by rw [hX]; exact h5x)) (byte_ne (n := 43) (by decide) g0) (byte_ne (n := 45) (by decide) g1) (byte_ne (n := 42) (by decide) g2) (byte_ne (n := 47) (by decide) g3) (byte_ne (n := 37) (by decide) g4) (byte_ne (n := 60) (by decide) g5) (byte_ne (n := 62) (by decide) g6) (byte_ne (n := 33) (by decide) g7) (byte_ne (n := 61) (by decide) g8) (byte_ne (n := 40) (by decide) g9) (byte_ne (n := 41) (by decide) g10) (by rw [g11]; rfl)
  by_cases g12 : s[0] = 125
  ·rw [sgn_one hno (by rw [hhd, g12]; decide)]
   exact sign1_12_1 s _ w h0 h1 rfl (str_ne (by rw [hX]; exact h0x)) (str_ne (by rw [hX]; exact h1x)) (str_ne (by rw [hX]; exact h2x)) (str_ne (by rw [hX]; exact h3x)) (str_ne (by rw [hX]; exact h4x)) (str_ne (by rw [hX]; exact h5x)) (byte_ne (n := 43) (by decide) g0) (byte_ne (n := 45) (by decide) g1) (byte_ne (n := 42) (by decide) g2) (byte_ne (n := 47) (by decide) g3) (byte_ne (n := 37) (by decide) g4) (byte_ne (n := 60) (by decide) g5) (byte_ne (n := 62) (by decide) g6) (byte_ne (n := 33) (by decide) g7) (byte_ne (n := 61) (by decide) g8) (byte_ne (n := 40) (by decide) g9) (byte_ne (n := 41) (by decide) g10) (byte_ne (n := 123) (by decide) g11) (by rw [g12]; rfl)
  by_cases g13 : s[0] = 91
  ·rw [sgn_one hno (by rw [hhd, g13]; decide)]
   exact sign1_13_1 s _ w h0 h1 rfl (str_ne (by rw [hX]; exact h0x)) (str_ne (by rw [hX]; exact h1x)) (str_ne (by rw [hX]; exact h2x)) (str_ne (by rw [hX]; exact h3x)) (str_ne (by rw [hX]; exact h4x)) (str_ne (by rw [hX]; exact h5x)) (byte_ne (n := 43) (by decide) g0) (byte_ne (n := 45) (by decide) g1) (byte_ne (n := 42) (by decide) g2) (byte_ne (n := 47) (by decide) g3) (byte_ne (n := 37) (by decide) g4) (byte_ne (n := 60) (by decide) g5) (byte_ne (n := 62) (by decide) g6) (byte_ne (n := 33) (by decide) g7) (byte_ne (n := 61) (by decide) g8) (byte_ne (n := 40) (by decide) g9) (byte_ne (n := 41) (by decide) g10) (byte_ne (n := 123) (by decide) g11) (byte_ne (n := 125) (by decide) g12) (by rw [g13]; rfl)
  by_cases g14 : s[0] = 93
  ·rw [sgn_one hno (by rw [hhd, g14]; decide)]
   exact sign1_14_1 s _ w h0 h1 rfl (str_ne (by rw [hX]; exact h0x)) (str_ne (by rw [hX]; exact h1x)) (str_ne (by rw [hX]; exact h2x)) (str_ne (by rw [hX]; exact h3x)) (str_ne (by rw [hX]; exact h4x)) (str_ne (by rw [hX]; exact h5x)) (byte_ne (n := 43) (by decide) g0) (byte_ne (n := 45) (by decide) g1) (byte_ne (n := 42) (by decide) g2) (byte_ne (n := 47) (by decide) g3) (byte_ne (n := 37) (by decide) g4) (byte_ne (n := 60) (by decide) g5) (byte_ne (n := 62) (by decide) g6) (byte_ne (n := 33) (by decide) g7) (byte_ne (n := 61) (by decide) g8) (byte_ne (n := 40) (by decide) g9) (byte_ne (n := 41) (by decide) g10) (byte_ne (n := 123) (by decide) g11) (byte_ne (n := 125) (by decide) g12) (byte_ne (n := 91) (by decide) g13) (by rw [g14]; rfl)
  by_cases g15 : s[0] = 44
  ·rw [sgn_one hno (by rw [hhd, g15]; decide)]
   exact sign1_15_1 s _ w h0 h1 rfl (str_ne (by rw [hX]; exact h0x)) (str_ne (by rw [hX]; exact h1x)) (str_ne (by rw [hX]; exact h2x)) (str_ne (by rw [hX]; exact h3x)) (str_ne (by rw [hX]; exact h4x)) (str_ne (by rw [hX]; exact h5x)) (byte_ne (n := 43) (by decide) g0) (byte_ne (n := 45) (by decide) g1) (byte_ne (n := 42) (by decide) g2) (byte_ne (n := 47) (by decide) g3) (byte_ne (n := 37) (by decide) g4) (byte_ne (n := 60) (by decide) g5) (byte_ne (n := 62) (by decide) g6) (byte_ne (n := 33) (by decide) g7) (byte_ne (n := 61) (by decide) g8) (byte_ne (n := 40) (by decide) g9) (byte_ne (n := 41) (by decide) g10) (byte_ne (n := 123) (by decide) g11) (byte_ne (n := 125) (by decide) g12) (byte_ne (n := 91) (by decide) g13) (byte_ne (n := 93) (by decide) g14) (by rw [g15]; rfl)
  by_cases g16 : s[0] = 59
  ·rw [sgn_one hno (by rw [hhd, g16]; decide)]
   exact sign1_16_1 s _ w h0 h1 rfl (str_ne (by rw [hX]; exact h0x)) (str_ne (by rw [hX]; exact h1x)) (str_ne (by rw [hX]; exact h2x)) (str_ne (by rw [hX]; exact h3x)) (str_ne (by rw [hX]; exact h4x)) (str_ne (by rw [hX]; exact h5x)) (byte_ne (n := 43) (by decide) g0) (byte_ne (n := 45) (by decide) g1) (byte_ne (n := 42) (by decide) g2) (byte_ne (n := 47) (by decide) g3) (byte_ne (n := 37) (by decide) g4) (byte_ne (n := 60) (by decide) g5) (byte_ne (n := 62) (by decide) g6) (byte_ne (n := 33) (by decide) g7) (byte_ne (n := 61) (by decide) g8) (byte_ne (n := 40) (by decide) g9) (byte_ne (n := 41) (by decide) g10) (byte_ne (n := 123) (by decide) g11) (byte_ne (n := 125) (by decide) g12) (byte_ne (n := 91) (by decide) g13) (byte_ne (n := 93) (by decide) g14) (byte_ne (n := 44) (by decide) g15) (by rw [g16]; rfl)
  by_cases g17 : s[0] = 58
  ·rw [sgn_one hno (by rw [hhd, g17]; decide)]
   exact sign1_17_1 s _ w h0 h1 rfl (str_ne (by rw [hX]; exact h0x)) (str_ne (by rw [hX]; exact h1x)) (str_ne (by rw [hX]; exact h2x)) (str_ne (by rw [hX]; exact h3x)) (str_ne (by rw [hX]; exact h4x)) (str_ne (by rw [hX]; exact h5x)) (byte_ne (n := 43) (by decide) g0) (byte_ne (n := 45) (by decide) g1) (byte_ne (n := 42) (by decide) g2) (byte_ne (n := 47) (by decide) g3) (byte_ne (n := 37) (by decide) g4) (byte_ne (n := 60) (by decide) g5) (byte_ne (n := 62) (by decide) g6) (byte_ne (n := 33) (by decide) g7) (byte_ne (n := 61) (by decide) g8) (byte_ne (n := 40) (by decide) g9) (byte_ne (n := 41) (by decide) g10) (byte_ne (n := 123) (by decide) g11) (byte_ne (n := 125) (by decide) g12) (byte_ne (n := 91) (by decide) g13) (byte_ne (n := 93) (by decide) g14) (byte_ne (n := 44) (by decide) g15) (byte_ne (n := 59) (by decide) g16) (by rw [g17]; rfl)
  by_cases g18 : s[0] = 46
  ·rw [sgn_one hno (by rw [hhd, g18]; decide)]
   exact sign1_18_1 s _ w h0 h1 rfl (str_ne (by rw [hX]; exact h0x)) (str_ne (by rw [hX]; exact h1x)) (str_ne (by rw [hX]; exact h2x)) (str_ne (by rw [hX]; exact h3x)) (str_ne (by rw [hX]; exact h4x)) (str_ne (by rw [hX]; exact h5x)) (byte_ne (n := 43) (by decide) g0) (byte_ne (n := 45) (by decide) g1) (byte_ne (n := 42) (by decide) g2) (byte_ne (n := 47) (by decide) g3) (byte_ne (n := 37) (by decide) g4) (byte_ne (n := 60) (by decide) g5) (byte_ne (n := 62) (by decide) g6) (byte_ne (n := 33) (by decide) g7) (byte_ne (n := 61) (by decide) g8) (byte_ne (n := 40) (by decide) g9) (byte_ne (n := 41) (by decide) g10) (byte_ne (n := 123) (by decide) g11) (byte_ne (n := 125) (by decide) g12) (byte_ne (n := 91) (by decide) g13) (byte_ne (n := 93) (by decide) g14) (byte_ne (n := 44) (by decide) g15) (byte_ne (n := 59) (by decide) g16) (byte_ne (n := 58) (by decide) g17) (by rw [g18]; rfl)
  rw [sgn_no hno (by rw [hhd]; simp [ones, g0, g1, g2, g3, g4, g5, g6, g7, g8, g9, g10, g11, g12, g13, g14, g15, g16, g17, g18])]
  exact sign1_19_1 s _ w h0 h1 rfl (str_ne (by rw [hX]; exact h0x)) (str_ne (by rw [hX]; exact h1x)) (str_ne (by rw [hX]; exact h2x)) (str_ne (by rw [hX]; exact h3x)) (str_ne (by rw [hX]; exact h4x)) (str_ne (by rw [hX]; exact h5x)) (byte_ne (n := 43) (by decide) g0) (byte_ne (n := 45) (by decide) g1) (byte_ne (n := 42) (by decide) g2) (byte_ne (n := 47) (by decide) g3) (byte_ne (n := 37) (by decide) g4) (byte_ne (n := 60) (by decide) g5) (byte_ne (n := 62) (by decide) g6) (byte_ne (n := 33) (by decide) g7) (byte_ne (n := 61) (by decide) g8) (byte_ne (n := 40) (by decide) g9) (byte_ne (n := 41) (by decide) g10) (byte_ne (n := 123) (by decide) g11) (byte_ne (n := 125) (by decide) g12) (byte_ne (n := 91) (by decide) g13) (byte_ne (n := 93) (by decide) g14) (byte_ne (n := 44) (by decide) g15) (byte_ne (n := 59) (by decide) g16) (byte_ne (n := 58) (by decide) g17) (byte_ne (n := 46) (by decide) g18)
 ·have hno : ¬ s.data.toList.take 2 ∈ twos := short_twos (by rw [size_list]; exact h1)
  by_cases g0 : s[0] = 43
  ·rw [sgn_one hno (by rw [hhd, g0]; decide)]
   exact sign1_0_0 s ByteArray.empty w h0 h1  (by rw [g0]; rfl)
  by_cases g1 : s[0] = 45
  ·rw [sgn_one hno (by rw [hhd, g1]; decide)]
   exact sign1_1_0 s ByteArray.empty w h0 h1 (byte_ne (n := 43) (by decide) g0) (by rw [g1]; rfl)
  by_cases g2 : s[0] = 42
  ·rw [sgn_one hno (by rw [hhd, g2]; decide)]
   exact sign1_2_0 s ByteArray.empty w h0 h1 (byte_ne (n := 43) (by decide) g0) (byte_ne (n := 45) (by decide) g1) (by rw [g2]; rfl)
  by_cases g3 : s[0] = 47
  ·rw [sgn_one hno (by rw [hhd, g3]; decide)]
   exact sign1_3_0 s ByteArray.empty w h0 h1 (byte_ne (n := 43) (by decide) g0) (byte_ne (n := 45) (by decide) g1) (byte_ne (n := 42) (by decide) g2) (by rw [g3]; rfl)
  by_cases g4 : s[0] = 37
  ·rw [sgn_one hno (by rw [hhd, g4]; decide)]
   exact sign1_4_0 s ByteArray.empty w h0 h1 (byte_ne (n := 43) (by decide) g0) (byte_ne (n := 45) (by decide) g1) (byte_ne (n := 42) (by decide) g2) (byte_ne (n := 47) (by decide) g3) (by rw [g4]; rfl)
  by_cases g5 : s[0] = 60
  ·rw [sgn_one hno (by rw [hhd, g5]; decide)]
   exact sign1_5_0 s ByteArray.empty w h0 h1 (byte_ne (n := 43) (by decide) g0) (byte_ne (n := 45) (by decide) g1) (byte_ne (n := 42) (by decide) g2) (byte_ne (n := 47) (by decide) g3) (byte_ne (n := 37) (by decide) g4) (by rw [g5]; rfl)
  by_cases g6 : s[0] = 62
  ·rw [sgn_one hno (by rw [hhd, g6]; decide)]
   exact sign1_6_0 s ByteArray.empty w h0 h1 (byte_ne (n := 43) (by decide) g0) (byte_ne (n := 45) (by decide) g1) (byte_ne (n := 42) (by decide) g2) (byte_ne (n := 47) (by decide) g3) (byte_ne (n := 37) (by decide) g4) (byte_ne (n := 60) (by decide) g5) (by rw [g6]; rfl)
  by_cases g7 : s[0] = 33
  ·rw [sgn_one hno (by rw [hhd, g7]; decide)]
   exact sign1_7_0 s ByteArray.empty w h0 h1 (byte_ne (n := 43) (by decide) g0) (byte_ne (n := 45) (by decide) g1) (byte_ne (n := 42) (by decide) g2) (byte_ne (n := 47) (by decide) g3) (byte_ne (n := 37) (by decide) g4) (byte_ne (n := 60) (by decide) g5) (byte_ne (n := 62) (by decide) g6) (by rw [g7]; rfl)
  by_cases g8 : s[0] = 61
  ·rw [sgn_one hno (by rw [hhd, g8]; decide)]
   exact sign1_8_0 s ByteArray.empty w h0 h1 (byte_ne (n := 43) (by decide) g0) (byte_ne (n := 45) (by decide) g1) (byte_ne (n := 42) (by decide) g2) (byte_ne (n := 47) (by decide) g3) (byte_ne (n := 37) (by decide) g4) (byte_ne (n := 60) (by decide) g5) (byte_ne (n := 62) (by decide) g6) (byte_ne (n := 33) (by decide) g7) (by rw [g8]; rfl)
  by_cases g9 : s[0] = 40
  ·rw [sgn_one hno (by rw [hhd, g9]; decide)]
   exact sign1_9_0 s ByteArray.empty w h0 h1 (byte_ne (n := 43) (by decide) g0) (byte_ne (n := 45) (by decide) g1) (byte_ne (n := 42) (by decide) g2) (byte_ne (n := 47) (by decide) g3) (byte_ne (n := 37) (by decide) g4) (byte_ne (n := 60) (by decide) g5) (byte_ne (n := 62) (by decide) g6) (byte_ne (n := 33) (by decide) g7) (byte_ne (n := 61) (by decide) g8) (by rw [g9]; rfl)
  by_cases g10 : s[0] = 41
  ·rw [sgn_one hno (by rw [hhd, g10]; decide)]
   exact sign1_10_0 s ByteArray.empty w h0 h1 (byte_ne (n := 43) (by decide) g0) (byte_ne (n := 45) (by decide) g1) (byte_ne (n := 42) (by decide) g2) (byte_ne (n := 47) (by decide) g3) (byte_ne (n := 37) (by decide) g4) (byte_ne (n := 60) (by decide) g5) (byte_ne (n := 62) (by decide) g6) (byte_ne (n := 33) (by decide) g7) (byte_ne (n := 61) (by decide) g8) (byte_ne (n := 40) (by decide) g9) (by rw [g10]; rfl)
  by_cases g11 : s[0] = 123
  ·rw [sgn_one hno (by rw [hhd, g11]; decide)]
   exact sign1_11_0 s ByteArray.empty w h0 h1 (byte_ne (n := 43) (by decide) g0) (byte_ne (n := 45) (by decide) g1) (byte_ne (n := 42) (by decide) g2) (byte_ne (n := 47) (by decide) g3) (byte_ne (n := 37) (by decide) g4) (byte_ne (n := 60) (by decide) g5) (byte_ne (n := 62) (by decide) g6) (byte_ne (n := 33) (by decide) g7) (byte_ne (n := 61) (by decide) g8) (byte_ne (n := 40) (by decide) g9) (byte_ne (n := 41) (by decide) g10) (by rw [g11]; rfl)
  by_cases g12 : s[0] = 125
  ·rw [sgn_one hno (by rw [hhd, g12]; decide)]
   exact sign1_12_0 s ByteArray.empty w h0 h1 (byte_ne (n := 43) (by decide) g0) (byte_ne (n := 45) (by decide) g1) (byte_ne (n := 42) (by decide) g2) (byte_ne (n := 47) (by decide) g3) (byte_ne (n := 37) (by decide) g4) (byte_ne (n := 60) (by decide) g5) (byte_ne (n := 62) (by decide) g6) (byte_ne (n := 33) (by decide) g7) (byte_ne (n := 61) (by decide) g8) (byte_ne (n := 40) (by decide) g9) (byte_ne (n := 41) (by decide) g10) (byte_ne (n := 123) (by decide) g11) (by rw [g12]; rfl)
  by_cases g13 : s[0] = 91
  ·rw [sgn_one hno (by rw [hhd, g13]; decide)]
   exact sign1_13_0 s ByteArray.empty w h0 h1 (byte_ne (n := 43) (by decide) g0) (byte_ne (n := 45) (by decide) g1) (byte_ne (n := 42) (by decide) g2) (byte_ne (n := 47) (by decide) g3) (byte_ne (n := 37) (by decide) g4) (byte_ne (n := 60) (by decide) g5) (byte_ne (n := 62) (by decide) g6) (byte_ne (n := 33) (by decide) g7) (byte_ne (n := 61) (by decide) g8) (byte_ne (n := 40) (by decide) g9) (byte_ne (n := 41) (by decide) g10) (byte_ne (n := 123) (by decide) g11) (byte_ne (n := 125) (by decide) g12) (by rw [g13]; rfl)
  by_cases g14 : s[0] = 93
  ·rw [sgn_one hno (by rw [hhd, g14]; decide)]
   exact sign1_14_0 s ByteArray.empty w h0 h1 (byte_ne (n := 43) (by decide) g0) (byte_ne (n := 45) (by decide) g1) (byte_ne (n := 42) (by decide) g2) (byte_ne (n := 47) (by decide) g3) (byte_ne (n := 37) (by decide) g4) (byte_ne (n := 60) (by decide) g5) (byte_ne (n := 62) (by decide) g6) (byte_ne (n := 33) (by decide) g7) (byte_ne (n := 61) (by decide) g8) (byte_ne (n := 40) (by decide) g9) (byte_ne (n := 41) (by decide) g10) (byte_ne (n := 123) (by decide) g11) (byte_ne (n := 125) (by decide) g12) (byte_ne (n := 91) (by decide) g13) (by rw [g14]; rfl)
  by_cases g15 : s[0] = 44
  ·rw [sgn_one hno (by rw [hhd, g15]; decide)]
   exact sign1_15_0 s ByteArray.empty w h0 h1 (byte_ne (n := 43) (by decide) g0) (byte_ne (n := 45) (by decide) g1) (byte_ne (n := 42) (by decide) g2) (byte_ne (n := 47) (by decide) g3) (byte_ne (n := 37) (by decide) g4) (byte_ne (n := 60) (by decide) g5) (byte_ne (n := 62) (by decide) g6) (byte_ne (n := 33) (by decide) g7) (byte_ne (n := 61) (by decide) g8) (byte_ne (n := 40) (by decide) g9) (byte_ne (n := 41) (by decide) g10) (byte_ne (n := 123) (by decide) g11) (byte_ne (n := 125) (by decide) g12) (byte_ne (n := 91) (by decide) g13) (byte_ne (n := 93) (by decide) g14) (by rw [g15]; rfl)
  by_cases g16 : s[0] = 59
  ·rw [sgn_one hno (by rw [hhd, g16]; decide)]
   exact sign1_16_0 s ByteArray.empty w h0 h1 (byte_ne (n := 43) (by decide) g0) (byte_ne (n := 45) (by decide) g1) (byte_ne (n := 42) (by decide) g2) (byte_ne (n := 47) (by decide) g3) (byte_ne (n := 37) (by decide) g4) (byte_ne (n := 60) (by decide) g5) (byte_ne (n := 62) (by decide) g6) (byte_ne (n := 33) (by decide) g7) (byte_ne (n := 61) (by decide) g8) (byte_ne (n := 40) (by decide) g9) (byte_ne (n := 41) (by decide) g10) (byte_ne (n := 123) (by decide) g11) (byte_ne (n := 125) (by decide) g12) (byte_ne (n := 91) (by decide) g13) (byte_ne (n := 93) (by decide) g14) (byte_ne (n := 44) (by decide) g15) (by rw [g16]; rfl)
  by_cases g17 : s[0] = 58
  ·rw [sgn_one hno (by rw [hhd, g17]; decide)]
   exact sign1_17_0 s ByteArray.empty w h0 h1 (byte_ne (n := 43) (by decide) g0) (byte_ne (n := 45) (by decide) g1) (byte_ne (n := 42) (by decide) g2) (byte_ne (n := 47) (by decide) g3) (byte_ne (n := 37) (by decide) g4) (byte_ne (n := 60) (by decide) g5) (byte_ne (n := 62) (by decide) g6) (byte_ne (n := 33) (by decide) g7) (byte_ne (n := 61) (by decide) g8) (byte_ne (n := 40) (by decide) g9) (byte_ne (n := 41) (by decide) g10) (byte_ne (n := 123) (by decide) g11) (byte_ne (n := 125) (by decide) g12) (byte_ne (n := 91) (by decide) g13) (byte_ne (n := 93) (by decide) g14) (byte_ne (n := 44) (by decide) g15) (byte_ne (n := 59) (by decide) g16) (by rw [g17]; rfl)
  by_cases g18 : s[0] = 46
  ·rw [sgn_one hno (by rw [hhd, g18]; decide)]
   exact sign1_18_0 s ByteArray.empty w h0 h1 (byte_ne (n := 43) (by decide) g0) (byte_ne (n := 45) (by decide) g1) (byte_ne (n := 42) (by decide) g2) (byte_ne (n := 47) (by decide) g3) (byte_ne (n := 37) (by decide) g4) (byte_ne (n := 60) (by decide) g5) (byte_ne (n := 62) (by decide) g6) (byte_ne (n := 33) (by decide) g7) (byte_ne (n := 61) (by decide) g8) (byte_ne (n := 40) (by decide) g9) (byte_ne (n := 41) (by decide) g10) (byte_ne (n := 123) (by decide) g11) (byte_ne (n := 125) (by decide) g12) (byte_ne (n := 91) (by decide) g13) (byte_ne (n := 93) (by decide) g14) (byte_ne (n := 44) (by decide) g15) (byte_ne (n := 59) (by decide) g16) (byte_ne (n := 58) (by decide) g17) (by rw [g18]; rfl)
  rw [sgn_no hno (by rw [hhd]; simp [ones, g0, g1, g2, g3, g4, g5, g6, g7, g8, g9, g10, g11, g12, g13, g14, g15, g16, g17, g18])]
  exact sign1_19_0 s ByteArray.empty w h0 h1 (byte_ne (n := 43) (by decide) g0) (byte_ne (n := 45) (by decide) g1) (byte_ne (n := 42) (by decide) g2) (byte_ne (n := 47) (by decide) g3) (byte_ne (n := 37) (by decide) g4) (byte_ne (n := 60) (by decide) g5) (byte_ne (n := 62) (by decide) g6) (byte_ne (n := 33) (by decide) g7) (byte_ne (n := 61) (by decide) g8) (byte_ne (n := 40) (by decide) g9) (byte_ne (n := 41) (by decide) g10) (byte_ne (n := 123) (by decide) g11) (byte_ne (n := 125) (by decide) g12) (byte_ne (n := 91) (by decide) g13) (byte_ne (n := 93) (by decide) g14) (byte_ne (n := 44) (by decide) g15) (byte_ne (n := 59) (by decide) g16) (byte_ne (n := 58) (by decide) g17) (byte_ne (n := 46) (by decide) g18)

theorem signSize_at (s : ByteArray) (h0 : 0 < s.size) (n : Nat) (hn : sgn s.data.toList = n) (w : World) : Calls Tryz.prog 65 #[.string s] w fun e w' => e = .returned (.int .i64 (n : Nat)) ∧ w = w' := hn ▸ signSize_any s w h0
end
end Go.Proofs.YtbknflaooemigaaGreat

namespace Go.Proofs.YtbknflaooemigaaGreat
section
open Go.RowKit
set_option linter.unusedVariables false

/-- What is answered of a text's first token. -/
abbrev oneV (o : One) : Value := .tuple #[tokV o.kind 0 0 o.num (bs o.text), .int .i64 (o.size : Nat), .int .i64 o.err]
abbrev badV (e : Int) : Value := .tuple #[tokV 0 0 0 0 { data := #[] }, .int .i64 0, .int .i64 e]

set_option maxHeartbeats 1000000 in
theorem num_cl (s X D Y : ByteArray) (w : World) (k k2 r : Nat) (n e : Int) (hs : s.size ≤ 100000) (hks : k ≤ s.size) (hk2 : (k : Int) + 1 = k2) (hk3 : k2 ≤ s.size) (hk : k < s.size) (e105 : ((s[k].toNat : Int) == 105) = true) (hr : 0 < r) (hX : s.extract 0 k = X) (hY : s.extract k2 s.size = Y)
  (H16a : Hid (∀ w, Calls Tryz.prog 43 #[.string s, .func (.func 62) #[] #[]] w fun e w' => e = .returned (.int .i64 (k : Nat)) ∧ w = w'))
  (H37 : Hid (∀ w, Calls Tryz.prog 87 #[.string X] w fun e w' => e = .returned (.string D) ∧ w = w'))
  (H16b : Hid (∀ w, Calls Tryz.prog 43 #[.string Y, .func (.func 59) #[] #[]] w fun e w' => e = .returned (.int .i64 (r : Nat)) ∧ w = w'))
  (H38 : Hid (∀ w, Calls Tryz.prog 88 #[.string D] w fun x w' => x = .returned (.tuple #[.int .i64 n, .int .i64 e]) ∧ w = w')) :
  Calls Tryz.prog 63 #[.string s] w fun x w' => x = .returned (badV 4) ∧ Below w.heap.size w w' := by
 have hr2 : (0 : Int) < r := by omega
 go_enter Tryz.func63, Tryz.ntmps63
 go_wp2_with fail
 refine (H16a.out _).mono ?_
 rintro _ w' ⟨rfl, rfl⟩
 go_wp2_with fail
 refine (H37.out _).mono ?_
 rintro _ w' ⟨rfl, rfl⟩
 go_wp2_with fail
 refine (H16b.out _).mono ?_
 rintro _ w' ⟨rfl, rfl⟩
 go_wp2
 refine bodyPost_ret (v := badV 4) (by simp [results, Tryz.results63, go_sem]) rfl ⟨rfl, ?_⟩
 go_grown

set_option maxHeartbeats 1000000 in
theorem num_cx (s X D Y : ByteArray) (w : World) (k k2 r : Nat) (n e : Int) (hs : s.size ≤ 100000) (hks : k ≤ s.size) (hk2 : (k : Int) + 1 = k2) (hk3 : k2 ≤ s.size) (hk : k < s.size) (e105 : ((s[k].toNat : Int) == 105) = true) (hr : r = 0) (he : (e != 0) = true) (hX : s.extract 0 k = X) (hY : s.extract k2 s.size = Y)
  (H16a : Hid (∀ w, Calls Tryz.prog 43 #[.string s, .func (.func 62) #[] #[]] w fun e w' => e = .returned (.int .i64 (k : Nat)) ∧ w = w'))
  (H37 : Hid (∀ w, Calls Tryz.prog 87 #[.string X] w fun e w' => e = .returned (.string D) ∧ w = w'))
  (H16b : Hid (∀ w, Calls Tryz.prog 43 #[.string Y, .func (.func 59) #[] #[]] w fun e w' => e = .returned (.int .i64 (r : Nat)) ∧ w = w'))
  (H38 : Hid (∀ w, Calls Tryz.prog 88 #[.string D] w fun x w' => x = .returned (.tuple #[.int .i64 n, .int .i64 e]) ∧ w = w')) :
  Calls Tryz.prog 63 #[.string s] w fun x w' => x = .returned (badV 14) ∧ Below w.heap.size w w' := by
 subst hr
 go_enter Tryz.func63, Tryz.ntmps63
 go_wp2_with fail
 refine (H16a.out _).mono ?_
 rintro _ w' ⟨rfl, rfl⟩
 go_wp2_with fail
 refine (H37.out _).mono ?_
 rintro _ w' ⟨rfl, rfl⟩
 go_wp2_with fail
 refine (H16b.out _).mono ?_
 rintro _ w' ⟨rfl, rfl⟩
 go_wp2_with fail
 refine (H38.out _).mono ?_
 rintro _ w' ⟨rfl, rfl⟩
 go_wp2
 refine bodyPost_ret (v := badV 14) (by simp [results, Tryz.results63, go_sem]) rfl ⟨rfl, ?_⟩
 go_grown

set_option maxHeartbeats 1000000 in
theorem num_co (s X D Y : ByteArray) (w : World) (k k2 r : Nat) (n e : Int) (hs : s.size ≤ 100000) (hks : k ≤ s.size) (hk2 : (k : Int) + 1 = k2) (hk3 : k2 ≤ s.size) (hk : k < s.size) (e105 : ((s[k].toNat : Int) == 105) = true) (hr : r = 0) (he : (e != 0) = false) (hn : 8388607 < n) (hX : s.extract 0 k = X) (hY : s.extract k2 s.size = Y)
  (H16a : Hid (∀ w, Calls Tryz.prog 43 #[.string s, .func (.func 62) #[] #[]] w fun e w' => e = .returned (.int .i64 (k : Nat)) ∧ w = w'))
  (H37 : Hid (∀ w, Calls Tryz.prog 87 #[.string X] w fun e w' => e = .returned (.string D) ∧ w = w'))
  (H16b : Hid (∀ w, Calls Tryz.prog 43 #[.string Y, .func (.func 59) #[] #[]] w fun e w' => e = .returned (.int .i64 (r : Nat)) ∧ w = w'))
  (H38 : Hid (∀ w, Calls Tryz.prog 88 #[.string D] w fun x w' => x = .returned (.tuple #[.int .i64 n, .int .i64 e]) ∧ w = w')) :
  Calls Tryz.prog 63 #[.string s] w fun x w' => x = .returned (badV 14) ∧ Below w.heap.size w w' := by
 subst hr
 go_enter Tryz.func63, Tryz.ntmps63
 go_wp2_with fail
 refine (H16a.out _).mono ?_
 rintro _ w' ⟨rfl, rfl⟩
 go_wp2_with fail
 refine (H37.out _).mono ?_
 rintro _ w' ⟨rfl, rfl⟩
 go_wp2_with fail
 refine (H16b.out _).mono ?_
 rintro _ w' ⟨rfl, rfl⟩
 go_wp2_with fail
 refine (H38.out _).mono ?_
 rintro _ w' ⟨rfl, rfl⟩
 go_wp2
 refine bodyPost_ret (v := badV 14) (by simp [results, Tryz.results63, go_sem]) rfl ⟨rfl, ?_⟩
 go_grown

set_option maxHeartbeats 1000000 in
theorem num_cy (s X D Y : ByteArray) (w : World) (k k2 r : Nat) (n e : Int) (hs : s.size ≤ 100000) (hks : k ≤ s.size) (hk2 : (k : Int) + 1 = k2) (hk3 : k2 ≤ s.size) (hk : k < s.size) (e105 : ((s[k].toNat : Int) == 105) = true) (hr : r = 0) (he : (e != 0) = false) (hn : ¬ 8388607 < n) (hX : s.extract 0 k = X) (hY : s.extract k2 s.size = Y)
  (H16a : Hid (∀ w, Calls Tryz.prog 43 #[.string s, .func (.func 62) #[] #[]] w fun e w' => e = .returned (.int .i64 (k : Nat)) ∧ w = w'))
  (H37 : Hid (∀ w, Calls Tryz.prog 87 #[.string X] w fun e w' => e = .returned (.string D) ∧ w = w'))
  (H16b : Hid (∀ w, Calls Tryz.prog 43 #[.string Y, .func (.func 59) #[] #[]] w fun e w' => e = .returned (.int .i64 (r : Nat)) ∧ w = w'))
  (H38 : Hid (∀ w, Calls Tryz.prog 88 #[.string D] w fun x w' => x = .returned (.tuple #[.int .i64 n, .int .i64 e]) ∧ w = w')) :
  Calls Tryz.prog 63 #[.string s] w fun x w' => x = .returned (.tuple #[tokV 4 0 0 n { data := #[] }, .int .i64 (k2 : Nat), .int .i64 0]) ∧ Below w.heap.size w w' := by
 subst hr
 go_enter Tryz.func63, Tryz.ntmps63
 go_wp2_with fail
 refine (H16a.out _).mono ?_
 rintro _ w' ⟨rfl, rfl⟩
 go_wp2_with fail
 refine (H37.out _).mono ?_
 rintro _ w' ⟨rfl, rfl⟩
 go_wp2_with fail
 refine (H16b.out _).mono ?_
 rintro _ w' ⟨rfl, rfl⟩
 go_wp2_with fail
 refine (H38.out _).mono ?_
 rintro _ w' ⟨rfl, rfl⟩
 go_wp2
 refine bodyPost_ret (v := .tuple #[tokV 4 0 0 n { data := #[] }, .int .i64 (k2 : Nat), .int .i64 0]) (by simp [results, Tryz.results63, go_sem]) rfl ⟨rfl, ?_⟩
 go_grown

set_option maxHeartbeats 1000000 in
theorem num_ml (s X D Y : ByteArray) (w : World) (k r : Nat) (n e : Int) (hs : s.size ≤ 100000) (hks : k ≤ s.size) (hk : k < s.size) (e105 : ((s[k].toNat : Int) == 105) = false) (hr : 0 < r) (hX : s.extract 0 k = X) (hY : s.extract k s.size = Y)
  (H16a : Hid (∀ w, Calls Tryz.prog 43 #[.string s, .func (.func 62) #[] #[]] w fun e w' => e = .returned (.int .i64 (k : Nat)) ∧ w = w'))
  (H37 : Hid (∀ w, Calls Tryz.prog 87 #[.string X] w fun e w' => e = .returned (.string D) ∧ w = w'))
  (H16b : Hid (∀ w, Calls Tryz.prog 43 #[.string Y, .func (.func 59) #[] #[]] w fun e w' => e = .returned (.int .i64 (r : Nat)) ∧ w = w'))
  (H38 : Hid (∀ w, Calls Tryz.prog 88 #[.string D] w fun x w' => x = .returned (.tuple #[.int .i64 n, .int .i64 e]) ∧ w = w')) :
  Calls Tryz.prog 63 #[.string s] w fun x w' => x = .returned (badV 4) ∧ Below w.heap.size w w' := by
 have hr2 : (0 : Int) < r := by omega
 go_enter Tryz.func63, Tryz.ntmps63
 go_wp2_with fail
 refine (H16a.out _).mono ?_
 rintro _ w' ⟨rfl, rfl⟩
 go_wp2_with fail
 refine (H37.out _).mono ?_
 rintro _ w' ⟨rfl, rfl⟩
 go_wp2_with fail
 refine (H16b.out _).mono ?_
 rintro _ w' ⟨rfl, rfl⟩
 go_wp2
 refine bodyPost_ret (v := badV 4) (by simp [results, Tryz.results63, go_sem]) rfl ⟨rfl, ?_⟩
 go_grown

set_option maxHeartbeats 1000000 in
theorem num_mx (s X D Y : ByteArray) (w : World) (k r : Nat) (n e : Int) (hs : s.size ≤ 100000) (hks : k ≤ s.size) (hk : k < s.size) (e105 : ((s[k].toNat : Int) == 105) = false) (hr : r = 0) (he : (e != 0) = true) (hX : s.extract 0 k = X) (hY : s.extract k s.size = Y)
  (H16a : Hid (∀ w, Calls Tryz.prog 43 #[.string s, .func (.func 62) #[] #[]] w fun e w' => e = .returned (.int .i64 (k : Nat)) ∧ w = w'))
  (H37 : Hid (∀ w, Calls Tryz.prog 87 #[.string X] w fun e w' => e = .returned (.string D) ∧ w = w'))
  (H16b : Hid (∀ w, Calls Tryz.prog 43 #[.string Y, .func (.func 59) #[] #[]] w fun e w' => e = .returned (.int .i64 (r : Nat)) ∧ w = w'))
  (H38 : Hid (∀ w, Calls Tryz.prog 88 #[.string D] w fun x w' => x = .returned (.tuple #[.int .i64 n, .int .i64 e]) ∧ w = w')) :
  Calls Tryz.prog 63 #[.string s] w fun x w' => x = .returned (badV 14) ∧ Below w.heap.size w w' := by
 subst hr
 go_enter Tryz.func63, Tryz.ntmps63
 go_wp2_with fail
 refine (H16a.out _).mono ?_
 rintro _ w' ⟨rfl, rfl⟩
 go_wp2_with fail
 refine (H37.out _).mono ?_
 rintro _ w' ⟨rfl, rfl⟩
 go_wp2_with fail
 refine (H16b.out _).mono ?_
 rintro _ w' ⟨rfl, rfl⟩
 go_wp2_with fail
 refine (H38.out _).mono ?_
 rintro _ w' ⟨rfl, rfl⟩
 go_wp2
 refine bodyPost_ret (v := badV 14) (by simp [results, Tryz.results63, go_sem]) rfl ⟨rfl, ?_⟩
 go_grown

set_option maxHeartbeats 1000000 in
theorem num_mo (s X D Y : ByteArray) (w : World) (k r : Nat) (n e : Int) (hs : s.size ≤ 100000) (hks : k ≤ s.size) (hk : k < s.size) (e105 : ((s[k].toNat : Int) == 105) = false) (hr : r = 0) (he : (e != 0) = false) (hn : 9223372036854775807 < n) (hX : s.extract 0 k = X) (hY : s.extract k s.size = Y)
  (H16a : Hid (∀ w, Calls Tryz.prog 43 #[.string s, .func (.func 62) #[] #[]] w fun e w' => e = .returned (.int .i64 (k : Nat)) ∧ w = w'))
  (H37 : Hid (∀ w, Calls Tryz.prog 87 #[.string X] w fun e w' => e = .returned (.string D) ∧ w = w'))
  (H16b : Hid (∀ w, Calls Tryz.prog 43 #[.string Y, .func (.func 59) #[] #[]] w fun e w' => e = .returned (.int .i64 (r : Nat)) ∧ w = w'))
  (H38 : Hid (∀ w, Calls Tryz.prog 88 #[.string D] w fun x w' => x = .returned (.tuple #[.int .i64 n, .int .i64 e]) ∧ w = w')) :
  Calls Tryz.prog 63 #[.string s] w fun x w' => x = .returned (badV 14) ∧ Below w.heap.size w w' := by
 subst hr
 go_enter Tryz.func63, Tryz.ntmps63
 go_wp2_with fail
 refine (H16a.out _).mono ?_
 rintro _ w' ⟨rfl, rfl⟩
 go_wp2_with fail
 refine (H37.out _).mono ?_
 rintro _ w' ⟨rfl, rfl⟩
 go_wp2_with fail
 refine (H16b.out _).mono ?_
 rintro _ w' ⟨rfl, rfl⟩
 go_wp2_with fail
 refine (H38.out _).mono ?_
 rintro _ w' ⟨rfl, rfl⟩
 go_wp2
 refine bodyPost_ret (v := badV 14) (by simp [results, Tryz.results63, go_sem]) rfl ⟨rfl, ?_⟩
 go_grown

set_option maxHeartbeats 1000000 in
theorem num_my (s X D Y : ByteArray) (w : World) (k r : Nat) (n e : Int) (hs : s.size ≤ 100000) (hks : k ≤ s.size) (hk : k < s.size) (e105 : ((s[k].toNat : Int) == 105) = false) (hr : r = 0) (he : (e != 0) = false) (hn : ¬ 9223372036854775807 < n) (hX : s.extract 0 k = X) (hY : s.extract k s.size = Y)
  (H16a : Hid (∀ w, Calls Tryz.prog 43 #[.string s, .func (.func 62) #[] #[]] w fun e w' => e = .returned (.int .i64 (k : Nat)) ∧ w = w'))
  (H37 : Hid (∀ w, Calls Tryz.prog 87 #[.string X] w fun e w' => e = .returned (.string D) ∧ w = w'))
  (H16b : Hid (∀ w, Calls Tryz.prog 43 #[.string Y, .func (.func 59) #[] #[]] w fun e w' => e = .returned (.int .i64 (r : Nat)) ∧ w = w'))
  (H38 : Hid (∀ w, Calls Tryz.prog 88 #[.string D] w fun x w' => x = .returned (.tuple #[.int .i64 n, .int .i64 e]) ∧ w = w')) :
  Calls Tryz.prog 63 #[.string s] w fun x w' => x = .returned (.tuple #[tokV 3 0 0 n { data := #[] }, .int .i64 (k : Nat), .int .i64 0]) ∧ Below w.heap.size w w' := by
 subst hr
 go_enter Tryz.func63, Tryz.ntmps63
 go_wp2_with fail
 refine (H16a.out _).mono ?_
 rintro _ w' ⟨rfl, rfl⟩
 go_wp2_with fail
 refine (H37.out _).mono ?_
 rintro _ w' ⟨rfl, rfl⟩
 go_wp2_with fail
 refine (H16b.out _).mono ?_
 rintro _ w' ⟨rfl, rfl⟩
 go_wp2_with fail
 refine (H38.out _).mono ?_
 rintro _ w' ⟨rfl, rfl⟩
 go_wp2
 refine bodyPost_ret (v := .tuple #[tokV 3 0 0 n { data := #[] }, .int .i64 (k : Nat), .int .i64 0]) (by simp [results, Tryz.results63, go_sem]) rfl ⟨rfl, ?_⟩
 go_grown

set_option maxHeartbeats 1000000 in
theorem num_el (s X D Y : ByteArray) (w : World) (k r : Nat) (n e : Int) (hs : s.size ≤ 100000) (hks : k ≤ s.size) (hk : ¬ (k : Int) < s.size) (hr : 0 < r) (hX : s.extract 0 k = X) (hY : s.extract k s.size = Y)
  (H16a : Hid (∀ w, Calls Tryz.prog 43 #[.string s, .func (.func 62) #[] #[]] w fun e w' => e = .returned (.int .i64 (k : Nat)) ∧ w = w'))
  (H37 : Hid (∀ w, Calls Tryz.prog 87 #[.string X] w fun e w' => e = .returned (.string D) ∧ w = w'))
  (H16b : Hid (∀ w, Calls Tryz.prog 43 #[.string Y, .func (.func 59) #[] #[]] w fun e w' => e = .returned (.int .i64 (r : Nat)) ∧ w = w'))
  (H38 : Hid (∀ w, Calls Tryz.prog 88 #[.string D] w fun x w' => x = .returned (.tuple #[.int .i64 n, .int .i64 e]) ∧ w = w')) :
  Calls Tryz.prog 63 #[.string s] w fun x w' => x = .returned (badV 4) ∧ Below w.heap.size w w' := by
 have hr2 : (0 : Int) < r := by omega
 go_enter Tryz.func63, Tryz.ntmps63
 go_wp2_with fail
 refine (H16a.out _).mono ?_
 rintro _ w' ⟨rfl, rfl⟩
 go_wp2_with fail
 refine (H37.out _).mono ?_
 rintro _ w' ⟨rfl, rfl⟩
 go_wp2_with fail
 refine (H16b.out _).mono ?_
 rintro _ w' ⟨rfl, rfl⟩
 go_wp2
 refine bodyPost_ret (v := badV 4) (by simp [results, Tryz.results63, go_sem]) rfl ⟨rfl, ?_⟩
 go_grown

set_option maxHeartbeats 1000000 in
theorem num_ex (s X D Y : ByteArray) (w : World) (k r : Nat) (n e : Int) (hs : s.size ≤ 100000) (hks : k ≤ s.size) (hk : ¬ (k : Int) < s.size) (hr : r = 0) (he : (e != 0) = true) (hX : s.extract 0 k = X) (hY : s.extract k s.size = Y)
  (H16a : Hid (∀ w, Calls Tryz.prog 43 #[.string s, .func (.func 62) #[] #[]] w fun e w' => e = .returned (.int .i64 (k : Nat)) ∧ w = w'))
  (H37 : Hid (∀ w, Calls Tryz.prog 87 #[.string X] w fun e w' => e = .returned (.string D) ∧ w = w'))
  (H16b : Hid (∀ w, Calls Tryz.prog 43 #[.string Y, .func (.func 59) #[] #[]] w fun e w' => e = .returned (.int .i64 (r : Nat)) ∧ w = w'))
  (H38 : Hid (∀ w, Calls Tryz.prog 88 #[.string D] w fun x w' => x = .returned (.tuple #[.int .i64 n, .int .i64 e]) ∧ w = w')) :
  Calls Tryz.prog 63 #[.string s] w fun x w' => x = .returned (badV 14) ∧ Below w.heap.size w w' := by
 subst hr
 go_enter Tryz.func63, Tryz.ntmps63
 go_wp2_with fail
 refine (H16a.out _).mono ?_
 rintro _ w' ⟨rfl, rfl⟩
 go_wp2_with fail
 refine (H37.out _).mono ?_
 rintro _ w' ⟨rfl, rfl⟩
 go_wp2_with fail
 refine (H16b.out _).mono ?_
 rintro _ w' ⟨rfl, rfl⟩
 go_wp2_with fail
 refine (H38.out _).mono ?_
 rintro _ w' ⟨rfl, rfl⟩
 go_wp2
 refine bodyPost_ret (v := badV 14) (by simp [results, Tryz.results63, go_sem]) rfl ⟨rfl, ?_⟩
 go_grown

set_option maxHeartbeats 1000000 in
theorem num_eo (s X D Y : ByteArray) (w : World) (k r : Nat) (n e : Int) (hs : s.size ≤ 100000) (hks : k ≤ s.size) (hk : ¬ (k : Int) < s.size) (hr : r = 0) (he : (e != 0) = false) (hn : 9223372036854775807 < n) (hX : s.extract 0 k = X) (hY : s.extract k s.size = Y)
  (H16a : Hid (∀ w, Calls Tryz.prog 43 #[.string s, .func (.func 62) #[] #[]] w fun e w' => e = .returned (.int .i64 (k : Nat)) ∧ w = w'))
  (H37 : Hid (∀ w, Calls Tryz.prog 87 #[.string X] w fun e w' => e = .returned (.string D) ∧ w = w'))
  (H16b : Hid (∀ w, Calls Tryz.prog 43 #[.string Y, .func (.func 59) #[] #[]] w fun e w' => e = .returned (.int .i64 (r : Nat)) ∧ w = w'))
  (H38 : Hid (∀ w, Calls Tryz.prog 88 #[.string D] w fun x w' => x = .returned (.tuple #[.int .i64 n, .int .i64 e]) ∧ w = w')) :
  Calls Tryz.prog 63 #[.string s] w fun x w' => x = .returned (badV 14) ∧ Below w.heap.size w w' := by
 subst hr
 go_enter Tryz.func63, Tryz.ntmps63
 go_wp2_with fail
 refine (H16a.out _).mono ?_
 rintro _ w' ⟨rfl, rfl⟩
 go_wp2_with fail
 refine (H37.out _).mono ?_
 rintro _ w' ⟨rfl, rfl⟩
 go_wp2_with fail
 refine (H16b.out _).mono ?_
 rintro _ w' ⟨rfl, rfl⟩
 go_wp2_with fail
 refine (H38.out _).mono ?_
 rintro _ w' ⟨rfl, rfl⟩
 go_wp2
 refine bodyPost_ret (v := badV 14) (by simp [results, Tryz.results63, go_sem]) rfl ⟨rfl, ?_⟩
 go_grown

set_option maxHeartbeats 1000000 in
theorem num_ey (s X D Y : ByteArray) (w : World) (k r : Nat) (n e : Int) (hs : s.size ≤ 100000) (hks : k ≤ s.size) (hk : ¬ (k : Int) < s.size) (hr : r = 0) (he : (e != 0) = false) (hn : ¬ 9223372036854775807 < n) (hX : s.extract 0 k = X) (hY : s.extract k s.size = Y)
  (H16a : Hid (∀ w, Calls Tryz.prog 43 #[.string s, .func (.func 62) #[] #[]] w fun e w' => e = .returned (.int .i64 (k : Nat)) ∧ w = w'))
  (H37 : Hid (∀ w, Calls Tryz.prog 87 #[.string X] w fun e w' => e = .returned (.string D) ∧ w = w'))
  (H16b : Hid (∀ w, Calls Tryz.prog 43 #[.string Y, .func (.func 59) #[] #[]] w fun e w' => e = .returned (.int .i64 (r : Nat)) ∧ w = w'))
  (H38 : Hid (∀ w, Calls Tryz.prog 88 #[.string D] w fun x w' => x = .returned (.tuple #[.int .i64 n, .int .i64 e]) ∧ w = w')) :
  Calls Tryz.prog 63 #[.string s] w fun x w' => x = .returned (.tuple #[tokV 3 0 0 n { data := #[] }, .int .i64 (k : Nat), .int .i64 0]) ∧ Below w.heap.size w w' := by
 subst hr
 go_enter Tryz.func63, Tryz.ntmps63
 go_wp2_with fail
 refine (H16a.out _).mono ?_
 rintro _ w' ⟨rfl, rfl⟩
 go_wp2_with fail
 refine (H37.out _).mono ?_
 rintro _ w' ⟨rfl, rfl⟩
 go_wp2_with fail
 refine (H16b.out _).mono ?_
 rintro _ w' ⟨rfl, rfl⟩
 go_wp2_with fail
 refine (H38.out _).mono ?_
 rintro _ w' ⟨rfl, rfl⟩
 go_wp2
 refine bodyPost_ret (v := .tuple #[tokV 3 0 0 n { data := #[] }, .int .i64 (k : Nat), .int .i64 0]) (by simp [results, Tryz.results63, go_sem]) rfl ⟨rfl, ?_⟩
 go_grown
end
end Go.Proofs.YtbknflaooemigaaGreat

namespace Go.Proofs.YtbknflaooemigaaGreat
section
open Go.RowKit
set_option linter.unusedVariables false

theorem ext_take (s : ByteArray) (k : Nat) : (s.extract 0 k).data.toList = s.data.toList.take k := by rw [ext_list]; simp
theorem ext_take_size (s : ByteArray) (k : Nat) (h : k ≤ s.size) : (s.extract 0 k).size = k := by rw [← size_list, ext_take, List.length_take, size_list]; omega

theorem number_lex (s : ByteArray) (w : World) (hs : s.size ≤ 100000) (h0 : 0 < s.size) (hd : dgt s[0] = true) :
  Calls Tryz.prog 63 #[.string s] w fun x w' => x = .returned (oneV (numOne s.data.toList)) ∧ Below w.heap.size w w' := by
 have hl : s.data.toList ≠ [] := fun e => by have := size_list s; rw [e] at this; simp at this; omega
 obtain ⟨k, hk⟩ : ∃ k, runL dgt s.data.toList = k := ⟨_, rfl⟩
 have hk1 : 1 ≤ k := by rw [← hk]; exact runL_pos (by rw [head_list s h0]; exact hd) hl
 have hks : k ≤ s.size := by rw [← hk, ← size_list]; exact runL_le _ _
 obtain ⟨X, hX⟩ : ∃ X, s.extract 0 k = X := ⟨_, rfl⟩
 have hXl : X.data.toList = s.data.toList.take k := by rw [← hX, ext_take]
 have hXs : X.size = k := by rw [← hX, ext_take_size s k hks]
 have hND : numD s.data.toList = trim X.data.toList := by rw [numD, hk, hXl]
 obtain ⟨D, hD⟩ : ∃ D, bs (trim X.data.toList) = D := ⟨_, rfl⟩
 have hDl : D.data.toList = numD s.data.toList := by rw [← hD, bs_list, hND]
 have hDs : D.size ≤ 100000 := by
  rw [← size_list, hDl, hND, trim, List.length_drop, size_list]; omega
 have H16a := Lib.hid (fun w => run_dgt_at s (by omega) k hk w)
 have H37 := Lib.hid (fun w => trim_any X w (by omega) (by omega) D (Lib.hid hD))
 have H38 := Lib.hid (fun w => Nm.parse_any D w hDs)
 rw [hDl] at H38
 obtain ⟨k2, hk2⟩ : ∃ k2, numK s.data.toList = k2 := ⟨_, rfl⟩
 obtain ⟨Y, hY⟩ : ∃ Y, s.extract k2 s.size = Y := ⟨_, rfl⟩
 have hYl : Y.data.toList = s.data.toList.drop k2 := by rw [← hY, ext_end]
 obtain ⟨r, hr⟩ : ∃ r, runL nam (s.data.toList.drop k2) = r := ⟨_, rfl⟩
 have hYs : Y.size ≤ 1000000 := by rw [← size_list, hYl, List.length_drop, size_list]; omega
 have H16b := Lib.hid (fun w => run_nam_at Y hYs r (by rw [hYl]; exact hr) w)
 obtain ⟨e, he⟩ : ∃ e, Nm.parseE (numD s.data.toList) = e := ⟨_, rfl⟩
 obtain ⟨n, hn⟩ : ∃ n, Nm.parseN (numD s.data.toList) = n := ⟨_, rfl⟩
 rw [he, hn] at H38
 unfold numOne
 rw [hk2, hr, he, hn]
 have b1 : ¬ e = 0 → (e != 0) = true := fun h => by simpa using h
 have b2 : e = 0 → (e != 0) = false := fun h => by simpa using h
 cases hc : isC s.data.toList with
 | true =>
  have hkk : k2 = k + 1 := by rw [← hk2, numK, if_pos hc, hk]
  have hk3 : k < s.size ∧ (s.data.toList.drop k).head? = some 105 := by
   unfold isC at hc
   rw [decide_eq_true_eq, hk] at hc
   refine ⟨?_, hc⟩
   by_cases hlt : k < s.size
   ·exact hlt
   ·rw [drop_end s k (by omega)] at hc; simp at hc
  have hb : s[k]'hk3.1 = 105 := by have := hk3.2; rw [head_drop s k hk3.1] at this; simpa using this
  have e105 : (((s[k]'hk3.1).toNat : Int) == 105) = true := by rw [hb]; rfl
  have hM : numM s.data.toList = 8388607 := by rw [numM, if_pos hc]
  rw [hM, if_pos rfl]
  by_cases hr0 : 0 < r
  ·rw [if_pos hr0]
   exact num_cl s X D Y w k k2 r n e hs hks (by omega) (by omega) hk3.1 e105 hr0 hX hY H16a H37 H16b H38
  ·rw [if_neg hr0]
   by_cases he0 : e = 0
   ·by_cases hno : 8388607 < n
    ·rw [if_pos (.inr hno)]
     exact num_co s X D Y w k k2 r n e hs hks (by omega) (by omega) hk3.1 e105 (by omega) (b2 he0) hno hX hY H16a H37 H16b H38
    ·rw [if_neg (fun h => h.elim (fun h => h he0) hno)]
     exact num_cy s X D Y w k k2 r n e hs hks (by omega) (by omega) hk3.1 e105 (by omega) (b2 he0) hno hX hY H16a H37 H16b H38
   ·rw [if_pos (.inl he0)]
    exact num_cx s X D Y w k k2 r n e hs hks (by omega) (by omega) hk3.1 e105 (by omega) (b1 he0) hX hY H16a H37 H16b H38
 | false =>
  have hkk : k2 = k := by rw [← hk2, numK, hc, hk]; rfl
  subst hkk
  have hM : numM s.data.toList = 9223372036854775807 := by rw [numM, hc]; rfl
  rw [hM, if_neg (show ¬ (false = true) by simp)]
  unfold isC at hc
  rw [decide_eq_false_iff_not, hk] at hc
  by_cases hlt : k2 < s.size
  ·have hb : s[k2] ≠ 105 := fun h => hc (by rw [head_drop s k2 hlt, h])
   have e105 : ((s[k2].toNat : Int) == 105) = false := byte_ne (n := 105) (by decide) hb
   by_cases hr0 : 0 < r
   ·rw [if_pos hr0]
    exact num_ml s X D Y w k2 r n e hs hks hlt e105 hr0 hX hY H16a H37 H16b H38
   ·rw [if_neg hr0]
    by_cases he0 : e = 0
    ·by_cases hno : 9223372036854775807 < n
     ·rw [if_pos (.inr hno)]
      exact num_mo s X D Y w k2 r n e hs hks hlt e105 (by omega) (b2 he0) hno hX hY H16a H37 H16b H38
     ·rw [if_neg (fun h => h.elim (fun h => h he0) hno)]
      exact num_my s X D Y w k2 r n e hs hks hlt e105 (by omega) (b2 he0) hno hX hY H16a H37 H16b H38
    ·rw [if_pos (.inl he0)]
     exact num_mx s X D Y w k2 r n e hs hks hlt e105 (by omega) (b1 he0) hX hY H16a H37 H16b H38
  ·by_cases hr0 : 0 < r
   ·rw [if_pos hr0]
    exact num_el s X D Y w k2 r n e hs hks (by omega) hr0 hX hY H16a H37 H16b H38
   ·rw [if_neg hr0]
    by_cases he0 : e = 0
    ·by_cases hno : 9223372036854775807 < n
     ·rw [if_pos (.inr hno)]
      exact num_eo s X D Y w k2 r n e hs hks (by omega) (by omega) (b2 he0) hno hX hY H16a H37 H16b H38
     ·rw [if_neg (fun h => h.elim (fun h => h he0) hno)]
      exact num_ey s X D Y w k2 r n e hs hks (by omega) (by omega) (b2 he0) hno hX hY H16a H37 H16b H38
    ·rw [if_pos (.inl he0)]
     exact num_ex s X D Y w k2 r n e hs hks (by omega) (by omega) (b1 he0) hX hY H16a H37 H16b H38

set_option maxHeartbeats 400000 in
theorem lit_no (s : ByteArray) (w : World) (N : Nat) (HE : Hid (∀ w, Calls Tryz.prog 89 #[.string s] w fun e w' => e = .returned (.tuple #[.int .i64 (N : Nat), .bool false]) ∧ w = w')) :
  Calls Tryz.prog 64 #[.string s] w fun e w' => e = .returned (badV 4) ∧ Below w.heap.size w w' := by
 go_enter Tryz.func64, Tryz.ntmps64
 go_wp2_with fail
 refine (HE.out _).mono ?_
 rintro _ w' ⟨rfl, rfl⟩
 go_wp2
 refine bodyPost_ret (v := badV 4) (by simp [results, Tryz.results64, go_sem]) rfl ⟨rfl, ?_⟩
 go_grown

set_option maxHeartbeats 1000000 in
theorem lit_yes (s X T : ByteArray) (w : World) (N : Nat) (hN : N ≤ s.size) (hX : s.extract 0 N = X) (HE : Hid (∀ w, Calls Tryz.prog 89 #[.string s] w fun e w' => e = .returned (.tuple #[.int .i64 (N : Nat), .bool true]) ∧ w = w'))
  (HU : Hid (∀ w, Calls Tryz.prog 90 #[.string X] w fun e w' => e = .returned (.tuple #[.string T, .int .i64 0]) ∧ Below w.heap.size w w')) :
  Calls Tryz.prog 64 #[.string s] w fun e w' => e = .returned (.tuple #[tokV 5 0 0 0 T, .int .i64 (N : Nat), .int .i64 0]) ∧ Below w.heap.size w w' := by
 go_enter Tryz.func64, Tryz.ntmps64
 go_wp2_with fail
 refine (HE.out _).mono ?_
 rintro _ w' ⟨rfl, rfl⟩
 go_wp2_with fail
 refine (HU.out _).mono ?_
 rintro _ w1 ⟨rfl, hb⟩
 obtain ⟨hc, hf⟩ := bcell hb
 have hz := hb.size
 simp only [World.size_alloc] at hc hf hz
 go_wp2
 refine bodyPost_ret (v := .tuple #[tokV 5 0 0 0 T, .int .i64 (N : Nat), .int .i64 0]) (by simp [results, Tryz.results64, go_sem, hc]) rfl ⟨rfl, ?_⟩
 have hb' := (by go_grown : Below w.heap.size w _).trans (hb.mono (by simp))
 go_grown

theorem read_quote (t : List UInt8) : readOf (34 :: t) = ((scan t).1, 1 + (scan t).2.1, (scan t).2.2) := by rw [readOf]; exact if_pos rfl

theorem read_head (l : List UInt8) (h : (readOf l).2.2 = true) : ∃ t, l = 34 :: t := by
 unfold readOf at h
 split at h
 ·rename_i hq
  cases l with
  | nil => simp at hq
  | cons c t => simp at hq; exact ⟨t, by rw [hq]⟩
 ·simp at h

theorem scan_take : ∀ n (m : List UInt8), m.length ≤ n → (scan m).2.2 = true → ∀ x, scan (m.take (scan m).2.1 ++ x) = scan m := by
 intro n
 induction n with
 | zero =>
  intro m hm h
  obtain rfl : m = [] := List.eq_nil_of_length_eq_zero (by omega)
  simp [scan, rb] at h
 | succ n ih =>
  intro m hm h x
  by_cases hq : m.head? = some 34
  ·rw [scan_quote m hq]
   cases m with
   | nil => simp at hq
   | cons c t => exact scan_quote _ (by simpa using hq)
  ·by_cases hb : (rb m).2.2 = true
   ·have hs := scan_step m hq hb
    have hz := rb_size m hb
    rw [hs] at h
    have hi := ih (m.drop (rb m).2.1) (by simp; omega) h x
    have hg0 : rb (m.take (scan m).2.1) = rb m := rb_takeN m hb _ (by rw [hs]; simp)
    have hg : rb (m.take (scan m).2.1 ++ x) = rb m := by rw [rb_app _ _ (by rw [hg0]; exact hb), hg0]
    have hle : (rb m).2.1 ≤ (m.take (scan m).2.1).length := by rw [List.length_take, hs]; simp; omega
    have hq2 : ¬ (m.take (scan m).2.1 ++ x).head? = some 34 := by
     cases m with
     | nil => simp at hz; omega
     | cons c t =>
      have h1 : (scan (c :: t)).2.1 = ((scan (c :: t)).2.1 - 1) + 1 := by rw [hs]; simp; omega
      rw [h1, List.take_succ_cons]
      simpa using hq
    rw [scan_step _ hq2 (by rw [hg]; exact hb), hg]
    have hd : (m.take (scan m).2.1 ++ x).drop (rb m).2.1 = (m.drop (rb m).2.1).take (scan (m.drop (rb m).2.1)).2.1 ++ x := by
     rw [List.drop_append_of_le_length hle, List.drop_take]; congr 2; rw [hs]; simp
    rw [hd, hi, ← hs]
   ·rw [scan_bad m hq (by simpa using hb)] at h
    simp at h

/-- What follows behind a literal plays no part. -/
theorem read_take_app (l : List UInt8) (h : (readOf l).2.2 = true) (x : List UInt8) : readOf (l.take (readOf l).2.1 ++ x) = readOf l := by
 obtain ⟨t, rfl⟩ := read_head l h
 rw [read_quote] at h ⊢
 have := scan_take _ t (Nat.le_refl _) h x
 show readOf ((34 :: t).take (1 + (scan t).2.1) ++ x) = _
 rw [show 1 + (scan t).2.1 = (scan t).2.1 + 1 by omega, List.take_succ_cons, List.cons_append, read_quote, this]
 simp; omega

theorem read_take (l : List UInt8) (h : (readOf l).2.2 = true) : readOf (l.take (readOf l).2.1) = readOf l := by
 have := read_take_app l h []
 rwa [List.append_nil] at this

theorem literal_lex (s : ByteArray) (w : World) (hs : s.size ≤ 100000) :
  Calls Tryz.prog 64 #[.string s] w fun x w' => x = .returned (oneV (litOne s.data.toList)) ∧ Below w.heap.size w w' := by
 have HE := fun w => end_any s w (by omega) _ rfl
 unfold litOne
 cases hok : (readOf s.data.toList).2.2 with
 | false =>
  rw [hok] at HE
  rw [if_neg (by simp)]
  exact lit_no s w _ (Lib.hid HE)
 | true =>
  rw [hok] at HE
  rw [if_pos rfl]
  obtain ⟨h1, h2, h3⟩ := unq_read s.data.toList hok
  rw [size_list] at h2
  have ht := read_take s.data.toList hok
  have HU := fun w => unquote_any (s.extract 0 (readOf s.data.toList).2.1) w (by rw [ext_take_size s _ h2]; omega)
  have hu : unqOf (s.extract 0 (readOf s.data.toList).2.1).data.toList = ((readOf s.data.toList).1, 0) := by
   rw [ext_take, unqOf, ht]
   exact if_pos ⟨hok, by rw [List.length_take, size_list]; omega⟩
  rw [hu] at HU
  exact lit_yes s _ _ w _ h2 rfl (Lib.hid HE) (Lib.hid HU)
end
end Go.Proofs.YtbknflaooemigaaGreat

namespace Go.Proofs.YtbknflaooemigaaGreat
section
open Go.RowKit Go.Sort
set_option linter.unusedVariables false

abbrev Bool1 (f : Nat) (c : UInt8) (b : Bool) : Prop := ∀ w, Calls Tryz.prog f #[byt c] w fun e w' => e = .returned (.bool b) ∧ w = w'

set_option maxHeartbeats 1000000 in
theorem tok_name_s (s X : ByteArray) (w : World) (h0 : 0 < s.size) (hs : s.size ≤ 100000) (n k : Nat) (hn : n ≤ s.size) (hX : s.extract 0 n = X)
  (H25 : Hid (Bool1 57 s[0] true))
  (H16 : Hid (∀ w, Calls Tryz.prog 43 #[.string s, .func (.func 59) #[] #[]] w fun e w' => e = .returned (.int .i64 (n : Nat)) ∧ w = w'))
  (H29 : Hid (∀ w, Calls Tryz.prog 61 #[.string X] w fun e w' => e = .returned (.int .u8 (k : Nat)) ∧ w = w'))
  (H28 : Hid (∀ w, Calls Tryz.prog 60 #[.int .u8 (k : Nat), .string X] w fun e w' => e = .returned (tokV k 0 0 0 X) ∧ Below w.heap.size w w')) :
  Calls Tryz.prog 45 #[.string s] w fun x w' => x = .returned (.tuple #[tokV k 0 0 0 X, .int .i64 (n : Nat), .int .i64 0]) ∧ Below w.heap.size w w' := by
 have hne := not_nil s h0
 go_enter Tryz.func45, Tryz.ntmps45
 go_wp2_with fail
 refine (H25.out _).mono ?_
 rintro e w' ⟨rfl, rfl⟩
 go_wp2_with fail
 refine (H16.out _).mono ?_
 rintro e w' ⟨rfl, rfl⟩
 go_wp2_with fail
 go_region_with (first
  | (go_at_call 61; refine (H29.out _).mono ?_; rintro e w' ⟨rfl, rfl⟩)
  | (go_at_call 60; refine (H28.out _).mono ?_; rintro e w1 ⟨rfl, hb⟩; obtain ⟨hc, hf⟩ := bcell hb; have hz := hb.size; simp only [World.size_alloc, World.size_drew] at hc hf hz))
 go_wp2
 refine bodyPost_ret (v := .tuple #[tokV k 0 0 0 X, .int .i64 (n : Nat), .int .i64 0]) (by simp [results, Tryz.results45, go_sem, hc]) rfl ⟨rfl, ?_⟩
 have hb' := (by go_grown : Below w.heap.size w _).trans (hb.mono (by simp))
 go_grown

set_option maxHeartbeats 1000000 in
theorem tok_name_g (s X : ByteArray) (w : World) (h0 : 0 < s.size) (hs : s.size ≤ 100000) (n k : Nat) (hn : n ≤ s.size) (hX : s.extract 0 n = X)
  (H25 : Hid (Bool1 57 s[0] false)) (H26 : Hid (Bool1 58 s[0] true))
  (H16 : Hid (∀ w, Calls Tryz.prog 43 #[.string s, .func (.func 59) #[] #[]] w fun e w' => e = .returned (.int .i64 (n : Nat)) ∧ w = w'))
  (H29 : Hid (∀ w, Calls Tryz.prog 61 #[.string X] w fun e w' => e = .returned (.int .u8 (k : Nat)) ∧ w = w'))
  (H28 : Hid (∀ w, Calls Tryz.prog 60 #[.int .u8 (k : Nat), .string X] w fun e w' => e = .returned (tokV k 0 0 0 X) ∧ Below w.heap.size w w')) :
  Calls Tryz.prog 45 #[.string s] w fun x w' => x = .returned (.tuple #[tokV k 0 0 0 X, .int .i64 (n : Nat), .int .i64 0]) ∧ Below w.heap.size w w' := by
 have hne := not_nil s h0
 go_enter Tryz.func45, Tryz.ntmps45
 go_wp2_with fail
 refine (H25.out _).mono ?_
 rintro e w' ⟨rfl, rfl⟩
 go_wp2_with fail
 refine (H26.out _).mono ?_
 rintro e w' ⟨rfl, rfl⟩
 go_wp2_with fail
 refine (H16.out _).mono ?_
 rintro e w' ⟨rfl, rfl⟩
 go_wp2_with fail
 go_region_with (first
  | (go_at_call 61; refine (H29.out _).mono ?_; rintro e w' ⟨rfl, rfl⟩)
  | (go_at_call 60; refine (H28.out _).mono ?_; rintro e w1 ⟨rfl, hb⟩; obtain ⟨hc, hf⟩ := bcell hb; have hz := hb.size; simp only [World.size_alloc, World.size_drew] at hc hf hz))
 go_wp2
 refine bodyPost_ret (v := .tuple #[tokV k 0 0 0 X, .int .i64 (n : Nat), .int .i64 0]) (by simp [results, Tryz.results45, go_sem, hc]) rfl ⟨rfl, ?_⟩
 have hb' := (by go_grown : Below w.heap.size w _).trans (hb.mono (by simp))
 go_grown

set_option maxHeartbeats 1000000 in
theorem tok_number (s T : ByteArray) (w : World) (h0 : 0 < s.size) (k n : Nat) (m e : Int)
  (H25 : Hid (Bool1 57 s[0] false)) (H26 : Hid (Bool1 58 s[0] false)) (H30 : Hid (Bool1 62 s[0] true))
  (H : Hid (∀ w, Calls Tryz.prog 63 #[.string s] w fun x w' => x = .returned (.tuple #[tokV k 0 0 m T, .int .i64 (n : Nat), .int .i64 e]) ∧ Below w.heap.size w w')) :
  Calls Tryz.prog 45 #[.string s] w fun x w' => x = .returned (.tuple #[tokV k 0 0 m T, .int .i64 (n : Nat), .int .i64 e]) ∧ Below w.heap.size w w' := by
 have hne := not_nil s h0
 go_enter Tryz.func45, Tryz.ntmps45
 go_wp2_with fail
 refine (H25.out _).mono ?_
 rintro e w' ⟨rfl, rfl⟩
 go_wp2_with fail
 refine (H26.out _).mono ?_
 rintro e w' ⟨rfl, rfl⟩
 go_wp2_with fail
 refine (H30.out _).mono ?_
 rintro e w' ⟨rfl, rfl⟩
 go_wp2_with fail
 refine (H.out _).mono ?_
 rintro _ w1 ⟨rfl, hb⟩
 obtain ⟨hc, hf⟩ := bcell hb
 have hz := hb.size
 simp only [World.size_alloc] at hc hf hz
 go_wp2
 refine bodyPost_ret (v := .tuple #[tokV k 0 0 m T, .int .i64 (n : Nat), .int .i64 e]) (by simp [results, Tryz.results45, go_sem, hc]) rfl ⟨rfl, ?_⟩
 have hb' := (by go_grown : Below w.heap.size w _).trans (hb.mono (by simp))
 go_grown

set_option maxHeartbeats 1000000 in
theorem tok_literal (s T : ByteArray) (w : World) (h0 : 0 < s.size) (k n : Nat) (m e : Int)
  (e34 : ((s[0].toNat : Int) == 34) = true) (H25 : Hid (Bool1 57 s[0] false)) (H26 : Hid (Bool1 58 s[0] false)) (H30 : Hid (Bool1 62 s[0] false))
  (H : Hid (∀ w, Calls Tryz.prog 64 #[.string s] w fun x w' => x = .returned (.tuple #[tokV k 0 0 m T, .int .i64 (n : Nat), .int .i64 e]) ∧ Below w.heap.size w w')) :
  Calls Tryz.prog 45 #[.string s] w fun x w' => x = .returned (.tuple #[tokV k 0 0 m T, .int .i64 (n : Nat), .int .i64 e]) ∧ Below w.heap.size w w' := by
 have hne := not_nil s h0
 go_enter Tryz.func45, Tryz.ntmps45
 go_wp2_with fail
 refine (H25.out _).mono ?_
 rintro e w' ⟨rfl, rfl⟩
 go_wp2_with fail
 refine (H26.out _).mono ?_
 rintro e w' ⟨rfl, rfl⟩
 go_wp2_with fail
 refine (H30.out _).mono ?_
 rintro e w' ⟨rfl, rfl⟩
 go_wp2_with fail
 refine (H.out _).mono ?_
 rintro _ w1 ⟨rfl, hb⟩
 obtain ⟨hc, hf⟩ := bcell hb
 have hz := hb.size
 simp only [World.size_alloc] at hc hf hz
 go_wp2
 refine bodyPost_ret (v := .tuple #[tokV k 0 0 m T, .int .i64 (n : Nat), .int .i64 e]) (by simp [results, Tryz.results45, go_sem, hc]) rfl ⟨rfl, ?_⟩
 have hb' := (by go_grown : Below w.heap.size w _).trans (hb.mono (by simp))
 go_grown

set_option maxHeartbeats 1000000 in
theorem tok_none (s : ByteArray) (w : World) (h0 : 0 < s.size) (e34 : ((s[0].toNat : Int) == 34) = false) (H25 : Hid (Bool1 57 s[0] false)) (H26 : Hid (Bool1 58 s[0] false)) (H30 : Hid (Bool1 62 s[0] false))
  (H33 : Hid (∀ w, Calls Tryz.prog 65 #[.string s] w fun e w' => e = .returned (.int .i64 ((0 : Nat) : Int)) ∧ w = w')) :
  Calls Tryz.prog 45 #[.string s] w fun x w' => x = .returned (badV 4) ∧ Below w.heap.size w w' := by
 have hne := not_nil s h0
 go_enter Tryz.func45, Tryz.ntmps45
 go_wp2_with fail
 refine (H25.out _).mono ?_
 rintro e w' ⟨rfl, rfl⟩
 go_wp2_with fail
 refine (H26.out _).mono ?_
 rintro e w' ⟨rfl, rfl⟩
 go_wp2_with fail
 refine (H30.out _).mono ?_
 rintro e w' ⟨rfl, rfl⟩
 go_wp2_with fail
 refine (H33.out _).mono ?_
 rintro e w' ⟨rfl, rfl⟩
 go_wp2
 refine bodyPost_ret (v := badV 4) (by simp [results, Tryz.results45, go_sem]) rfl ⟨rfl, ?_⟩
 go_grown

set_option maxHeartbeats 1000000 in
theorem tok_sign (s X : ByteArray) (w : World) (h0 : 0 < s.size) (n : Nat) (hn0 : ((n : Int) == 0) = false) (hn : n ≤ s.size) (hs : s.size ≤ 100000) (hX : s.extract 0 n = X) (e34 : ((s[0].toNat : Int) == 34) = false) (H25 : Hid (Bool1 57 s[0] false)) (H26 : Hid (Bool1 58 s[0] false)) (H30 : Hid (Bool1 62 s[0] false))
  (H33 : Hid (∀ w, Calls Tryz.prog 65 #[.string s] w fun e w' => e = .returned (.int .i64 (n : Nat)) ∧ w = w'))
  (H28 : Hid (∀ w, Calls Tryz.prog 60 #[.int .u8 7, .string X] w fun e w' => e = .returned (tokV 7 0 0 0 X) ∧ Below w.heap.size w w')) :
  Calls Tryz.prog 45 #[.string s] w fun x w' => x = .returned (.tuple #[tokV 7 0 0 0 X, .int .i64 (n : Nat), .int .i64 0]) ∧ Below w.heap.size w w' := by
 have hne := not_nil s h0
 go_enter Tryz.func45, Tryz.ntmps45
 go_wp2_with fail
 refine (H25.out _).mono ?_
 rintro e w' ⟨rfl, rfl⟩
 go_wp2_with fail
 refine (H26.out _).mono ?_
 rintro e w' ⟨rfl, rfl⟩
 go_wp2_with fail
 refine (H30.out _).mono ?_
 rintro e w' ⟨rfl, rfl⟩
 go_wp2_with fail
 refine (H33.out _).mono ?_
 rintro e w' ⟨rfl, rfl⟩
 go_wp2_with fail
 refine (H28.out _).mono ?_
 rintro _ w1 ⟨rfl, hb⟩
 obtain ⟨hc, hf⟩ := bcell hb
 have hz := hb.size
 simp only [World.size_alloc] at hc hf hz
 go_wp2
 refine bodyPost_ret (v := .tuple #[tokV 7 0 0 0 X, .int .i64 (n : Nat), .int .i64 0]) (by simp [results, Tryz.results45, go_sem, hc]) rfl ⟨rfl, ?_⟩
 have hb' := (by go_grown : Below w.heap.size w _).trans (hb.mono (by simp))
 go_grown

theorem sgn_le (l : List UInt8) (hl : l ≠ []) : sgn l ≤ l.length := by
 unfold sgn
 split
 ·rename_i h5
  have h6 : ∀ x ∈ twos, x.length = 2 := by decide
  have := h6 _ h5
  rw [List.length_take] at this; omega
 ·split
  ·cases l with
   | nil => exact absurd rfl hl
   | cons => simp
  ·omega

theorem bs_take (s : ByteArray) (n : Nat) : bs (s.data.toList.take n) = s.extract 0 n := by rw [← ext_take, bs_eta]

theorem token_any (s : ByteArray) (w : World) (hs : s.size ≤ 100000) (h0 : 0 < s.size) :
  Calls Tryz.prog 45 #[.string s] w fun x w' => x = .returned (oneV (one s.data.toList)) ∧ Below w.heap.size w w' := by
 have hl : s.data.toList ≠ [] := fun e => by have := size_list s; rw [e] at this; simp at this; omega
 have hhd := head_list s h0
 have hrl : runL nam s.data.toList ≤ s.size := by rw [← size_list]; exact runL_le _ _
 have hsl : sgn s.data.toList ≤ s.size := by rw [← size_list]; exact sgn_le _ hl
 have H16 := Lib.hid (fun w => run_nam_at s (by omega) _ rfl w)
 have name : (sml s[0] || grt s[0]) = true → 1 ≤ runL nam s.data.toList := fun h => runL_pos (by rw [hhd]; unfold nam; rw [h]; rfl) hl
 have H29 : (sml s[0] || grt s[0]) = true → ∀ w, Calls Tryz.prog 61 #[.string (s.extract 0 (runL nam s.data.toList))] w fun e w' => e = .returned (.int .u8 (namK s.data.toList : Nat)) ∧ w = w' := fun h w => by
  have hx : 0 < (s.extract 0 (runL nam s.data.toList)).size := by rw [ext_take_size s _ hrl]; exact name h
  refine kindName_any _ w hx _ (Lib.hid ?_)
  rw [ext_take, namK, hhd]
  have e0 : (s.extract 0 (runL nam s.data.toList))[0] = s[0] := by
   have h1 := head_list _ hx
   rw [ext_take] at h1
   rw [← h1, ← hhd]
   have h2 := name h
   cases hc : s.data.toList with
   | nil => exact absurd hc hl
   | cons c t =>
    rw [hc] at h2
    rw [show runL nam (c :: t) = (runL nam (c :: t) - 1) + 1 by omega, List.take_succ_cons]; rfl
  rw [e0]
 have hX := ext_take_size s _ hrl
 unfold one
 rw [hhd]
 cases h1 : sml s[0] with
 | true =>
  rw [h1] at H29
  rw [if_pos (by simp)]; dsimp only [oneV]; rw [bs_take]
  exact tok_name_s s _ w h0 hs _ _ hrl rfl (Lib.hid fun w => small_at h1 w) H16 (Lib.hid (H29 (by simp))) (Lib.hid fun w => text_any _ _ w (by omega))
 | false =>
  have H25 : Hid (Bool1 57 s[0] false) := Lib.hid fun w => small_at h1 w
  cases h2 : grt s[0] with
  | true =>
   rw [h2] at H29
   rw [if_pos (by simp)]; dsimp only [oneV]; rw [bs_take]
   exact tok_name_g s _ w h0 hs _ _ hrl rfl H25 (Lib.hid fun w => great_at h2 w) H16 (Lib.hid (H29 (by simp))) (Lib.hid fun w => text_any _ _ w (by omega))
  | false =>
   have H26 : Hid (Bool1 58 s[0] false) := Lib.hid fun w => great_at h2 w
   rw [if_neg (by simp)]
   cases h3 : dgt s[0] with
   | true =>
    rw [if_pos rfl]
    exact tok_number s _ w h0 _ _ _ _ H25 H26 (Lib.hid fun w => digit_at h3 w) (Lib.hid fun w => number_lex s w hs h0 h3)
   | false =>
    have H30 : Hid (Bool1 62 s[0] false) := Lib.hid fun w => digit_at h3 w
    rw [if_neg (by simp)]
    by_cases h34 : s[0] = 34
    ·rw [if_pos h34]
     exact tok_literal s _ w h0 _ _ _ _ (by rw [h34]; rfl) H25 H26 H30 (Lib.hid fun w => literal_lex s w hs)
    ·rw [if_neg h34]
     have e34 : ((s[0].toNat : Int) == 34) = false := byte_ne (n := 34) (by decide) h34
     unfold sgnOne
     by_cases hn : sgn s.data.toList = 0
     ·rw [if_pos hn]
      exact tok_none s w h0 e34 H25 H26 H30 (Lib.hid fun w => signSize_at s h0 0 hn w)
     ·rw [if_neg hn]; dsimp only [oneV]; rw [bs_take]
      exact tok_sign s _ w h0 _ (by rw [beq_eq_false_iff_ne]; omega) hsl hs rfl e34 H25 H26 H30 (Lib.hid fun w => signSize_any s w h0) (Lib.hid fun w => text_any 7 _ w (by rw [ext_take_size s _ hsl]; omega))
end
end Go.Proofs.YtbknflaooemigaaGreat
