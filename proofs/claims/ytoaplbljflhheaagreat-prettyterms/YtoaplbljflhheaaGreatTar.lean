/-
 Contracts and plain facts on the way to PrettyTerms. Conditions: as each says.
-/
import Derived.Shelf.Pu.Clone
import Derived.Deep.RegionWith
import Derived.Test.YtoaplbljflhheaaGreatTab
import Derived.Test.YtoaplbljflhheaaGreatTam
import Derived.Test.YtoaplbljflhheaaGreatTad
set_option maxHeartbeats 40000000
set_option maxRecDepth 100000
set_option linter.unusedVariables false
set_option linter.unusedSimpArgs false
namespace Go.Proofs.YtoaplbljflhheaaGreat
section
open Go.RowKit Go.Shelf
def b6s : Ren := { f := fun i => if i = 25 then 188 else i, t := fun i => if i = 37 then 58 else if i = 47 then 114 else i, g := fun i => i }
theorem b6q : LaysPu.n25 Tryz.prog b6s where
 mixed := by kernel_rfl
 f25 := by kernel_rfl
 t0 := by kernel_rfl
 a0 := fun w => by kernel_rfl
 z0 := fun w => by kernel_rfl
 v0 := fun w => by kernel_rfl
 i0 := by kernel_rfl
 t3 := by kernel_rfl
 a3 := fun w => by kernel_rfl
 z3 := fun w => by kernel_rfl
 v3 := fun w => by kernel_rfl
 i3 := by kernel_rfl
 t4 := by kernel_rfl
 a4 := fun w => by kernel_rfl
 z4 := fun w => by kernel_rfl
 v4 := fun w => by kernel_rfl
 i4 := by kernel_rfl
 t5 := by kernel_rfl
 a5 := fun w => by kernel_rfl
 z5 := fun w => by kernel_rfl
 v5 := fun w => by kernel_rfl
 i5 := by kernel_rfl
 t9 := by kernel_rfl
 a9 := fun w => by kernel_rfl
 z9 := fun w => by kernel_rfl
 v9 := fun w => by kernel_rfl
 i9 := by kernel_rfl
 t37 := by kernel_rfl
 a37 := fun w => by kernel_rfl
 z37 := fun w => by kernel_rfl
 v37 := fun w => by kernel_rfl
 i37 := by kernel_rfl
 t47 := by kernel_rfl
 a47 := fun w => by kernel_rfl
 z47 := fun w => by kernel_rfl
 v47 := fun w => by kernel_rfl
 i47 := by kernel_rfl
theorem a44 (s : ByteArray) (w : World) (hs : s.size ≤ 1000000) : Calls Tryz.prog 188 #[.string s] w fun e w' => e = .returned (.string s) ∧ Below w.heap.size w w' :=
 AnyPu.stringslite_Clone b6q s w (by omega)
theorem a00 (s : ByteArray) (w : World) (hs : s.size ≤ 1000000) : Calls Tryz.prog 168 #[.string s] w fun e w' => e = .returned (.string s) ∧ Below w.heap.size w w' := by
 have H := zz (fun w => a44 s w hs)
 go_enter Tryz.func168, Tryz.ntmps168
 go_wp2_with fail
 refine (H.out _).mono ?_
 rintro e w1 ⟨rfl, hb⟩
 go_wp2
 go_ret
 exact ⟨rfl, hb⟩
abbrev Jr (k a b : Nat) (n : Int) (s : ByteArray) : Value := .agg #[.int .u8 k, .int .i64 a, .int .i64 b, .int .i64 n, .string s]
theorem N0 (k : Nat) (s : ByteArray) (w : World) (hs : s.size ≤ 1000000) : Calls Tryz.prog 130 #[.int .u8 k, .string s] w fun e w' => e = .returned (Jr k 0 0 0 s) ∧ Below w.heap.size w w' := by
 have H := zz (fun w => a00 s w hs)
 go_enter Tryz.func130, Tryz.ntmps130
 go_wp2_with fail
 refine (H.out _).mono ?_
 rintro e w1 ⟨rfl, hb⟩
 obtain ⟨hc, hf⟩ := Df hb
 have hz := hb.size
 simp only [World.size_alloc] at hc hf hz
 go_wp2
 refine bodyPost_ret (v := Jr k 0 0 0 s) (by simp [results, Tryz.results130, go_sem, hc]) rfl ⟨rfl, ?_⟩
 have hb' := (by go_grown : Below w.heap.size w _).trans (hb.mono (by simp))
 go_grown
end
end Go.Proofs.YtoaplbljflhheaaGreat
namespace Go.Proofs.YtoaplbljflhheaaGreat
section
open Go.RowKit
theorem Qb (s : ByteArray) (w : World) (h0 : 0 < s.size) (r : Nat) (hr : Hid ((if F4 s.data.toList = true then 6 else if grt s[0] = true then 2 else 1) = r)) :
  Calls Tryz.prog 131 #[.string s] w fun e w' => e = .returned (.int .u8 (r : Nat)) ∧ w = w' := by
 have hne := Ff s h0
 cases h1 : F4 s.data.toList with
 | true =>
  have H1 := zz (fun w => Qy s true h1 w)
  obtain rfl : 6 = r := by rw [← hr.out, h1]; rfl
  clear h1 hr
  go_enter Tryz.func131, Tryz.ntmps131
  go_wp2_with fail
  refine (H1.out _).mono ?_
  rintro e w' ⟨rfl, rfl⟩
  go_wp2
  go_ret
  exact ⟨rfl, rfl⟩
 | false =>
  have H1 := zz (fun w => Qy s false h1 w)
  cases h2 : grt s[0] with
  | true =>
   have H2 := zz (fun w => Hw h2 w)
   obtain rfl : 2 = r := by rw [← hr.out, h1, h2]; rfl
   clear h1 h2 hr
   go_enter Tryz.func131, Tryz.ntmps131
   go_wp2_with fail
   refine (H1.out _).mono ?_
   rintro e w' ⟨rfl, rfl⟩
   go_wp2_with fail
   refine (H2.out _).mono ?_
   rintro e w' ⟨rfl, rfl⟩
   go_wp2
   go_ret
   exact ⟨rfl, rfl⟩
  | false =>
   have H2 := zz (fun w => Hw h2 w)
   obtain rfl : 1 = r := by rw [← hr.out, h1, h2]; rfl
   clear h1 h2 hr
   go_enter Tryz.func131, Tryz.ntmps131
   go_wp2_with fail
   refine (H1.out _).mono ?_
   rintro e w' ⟨rfl, rfl⟩
   go_wp2_with fail
   refine (H2.out _).mono ?_
   rintro e w' ⟨rfl, rfl⟩
   go_wp2
   go_ret
   exact ⟨rfl, rfl⟩
theorem a14 (s : ByteArray) (w : World) (hs : s.size ≤ 1000000) (h0 : 0 < s.size) (T : ByteArray) (hT : Hid (bs (a52 s.data.toList) = T)) :
  Calls Tryz.prog 169 #[.string s] w fun e w' => e = .returned (.string T) ∧ w = w' := by
 obtain ⟨m, hm⟩ : ∃ m, s.size - 1 = m := ⟨_, rfl⟩
 have hl : (s.extract 0 m).data.toList = s.data.toList.dropLast := by rw [Hz, List.dropLast_eq_take, Af, hm]; simp
 have hsz : (s.extract 0 m).size ≤ 1000000 := by rw [← Af, hl, List.length_dropLast, Af]; omega
 obtain ⟨n, hn⟩ : ∃ n, Cb nou s.data.toList.dropLast = n := ⟨_, rfl⟩
 have hnm : n ≤ s.size := by
  have := Ij nou s.data.toList.dropLast
  rw [hn, List.length_dropLast, Af] at this; omega
 have HR := zz (fun w => Vg (s.extract 0 m) hsz n (by rw [hl, hn]) w)
 have hT2 := zz (show s.extract n s.size = T by
  rw [← hT.out, a52, hn]
  apply T3
  rw [Fi, D4])
 have hmi : (s.size : Int) - 1 = m := by omega
 have hms : m ≤ s.size := by omega
 clear hl hn hT hm
 go_enter Tryz.func169, Tryz.ntmps169
 go_wp2_with fail
 refine (HR.out _).mono ?_
 rintro e w' ⟨rfl, rfl⟩
 go_wp2
 go_ret
 rw [← hT2.out]
 exact ⟨rfl, rfl⟩
theorem a78 (s X : ByteArray) (w : World) (h1 : 1 < s.size) (hX : s.extract 0 2 = X) (e0 : (X.toList == [38, 38]) = true) : Calls Tryz.prog 135 #[.string s] w fun e w' => e = .returned (.int .i64 2) ∧ w = w' := by
 have h2 : (2 : Int) ≤ s.size := by omega
 have h3 : 2 ≤ s.size := by omega
 go_enter Tryz.func135, Tryz.ntmps135
 go_wp2
 go_ret
 exact ⟨rfl, rfl⟩
theorem a77 (s X : ByteArray) (w : World) (h1 : 1 < s.size) (hX : s.extract 0 2 = X) (e0 : (X.toList == [38, 38]) = false) (e1 : (X.toList == [124, 124]) = true) : Calls Tryz.prog 135 #[.string s] w fun e w' => e = .returned (.int .i64 2) ∧ w = w' := by
 have h2 : (2 : Int) ≤ s.size := by omega
 have h3 : 2 ≤ s.size := by omega
 go_enter Tryz.func135, Tryz.ntmps135
 go_wp2
 go_ret
 exact ⟨rfl, rfl⟩
theorem a74 (s X : ByteArray) (w : World) (h1 : 1 < s.size) (hX : s.extract 0 2 = X) (e0 : (X.toList == [38, 38]) = false) (e1 : (X.toList == [124, 124]) = false) (e2 : (X.toList == [61, 61]) = true) : Calls Tryz.prog 135 #[.string s] w fun e w' => e = .returned (.int .i64 2) ∧ w = w' := by
 have h2 : (2 : Int) ≤ s.size := by omega
 have h3 : 2 ≤ s.size := by omega
 go_enter Tryz.func135, Tryz.ntmps135
 go_wp2
 go_ret
 exact ⟨rfl, rfl⟩
theorem a73 (s X : ByteArray) (w : World) (h1 : 1 < s.size) (hX : s.extract 0 2 = X) (e0 : (X.toList == [38, 38]) = false) (e1 : (X.toList == [124, 124]) = false) (e2 : (X.toList == [61, 61]) = false) (e3 : (X.toList == [33, 61]) = true) : Calls Tryz.prog 135 #[.string s] w fun e w' => e = .returned (.int .i64 2) ∧ w = w' := by
 have h2 : (2 : Int) ≤ s.size := by omega
 have h3 : 2 ≤ s.size := by omega
 go_enter Tryz.func135, Tryz.ntmps135
 go_wp2
 go_ret
 exact ⟨rfl, rfl⟩
theorem a71 (s X : ByteArray) (w : World) (h1 : 1 < s.size) (hX : s.extract 0 2 = X) (e0 : (X.toList == [38, 38]) = false) (e1 : (X.toList == [124, 124]) = false) (e2 : (X.toList == [61, 61]) = false) (e3 : (X.toList == [33, 61]) = false) (e4 : (X.toList == [60, 61]) = true) : Calls Tryz.prog 135 #[.string s] w fun e w' => e = .returned (.int .i64 2) ∧ w = w' := by
 have h2 : (2 : Int) ≤ s.size := by omega
 have h3 : 2 ≤ s.size := by omega
 go_enter Tryz.func135, Tryz.ntmps135
 go_wp2
 go_ret
 exact ⟨rfl, rfl⟩
theorem a7z (s X : ByteArray) (w : World) (h1 : 1 < s.size) (hX : s.extract 0 2 = X) (e0 : (X.toList == [38, 38]) = false) (e1 : (X.toList == [124, 124]) = false) (e2 : (X.toList == [61, 61]) = false) (e3 : (X.toList == [33, 61]) = false) (e4 : (X.toList == [60, 61]) = false) (e5 : (X.toList == [62, 61]) = true) : Calls Tryz.prog 135 #[.string s] w fun e w' => e = .returned (.int .i64 2) ∧ w = w' := by
 have h2 : (2 : Int) ≤ s.size := by omega
 have h3 : 2 ≤ s.size := by omega
 go_enter Tryz.func135, Tryz.ntmps135
 go_wp2
 go_ret
 exact ⟨rfl, rfl⟩
theorem Xx (s X : ByteArray) (w : World) (h0 : 0 < s.size) (h1 : ¬ 1 < s.size) (f0 : ((s[0].toNat : Int) == 43) = true) : Calls Tryz.prog 135 #[.string s] w fun e w' => e = .returned (.int .i64 1) ∧ w = w' := by
 have h2 : ¬ (1 : Int) < s.size := by omega
 go_enter Tryz.func135, Tryz.ntmps135
 go_wp2
 go_ret
 exact ⟨rfl, rfl⟩
theorem Xw (s X : ByteArray) (w : World) (h0 : 0 < s.size) (h1 : 1 < s.size) (hX : s.extract 0 2 = X) (e0 : (X.toList == [38, 38]) = false) (e1 : (X.toList == [124, 124]) = false) (e2 : (X.toList == [61, 61]) = false) (e3 : (X.toList == [33, 61]) = false) (e4 : (X.toList == [60, 61]) = false) (e5 : (X.toList == [62, 61]) = false) (f0 : ((s[0].toNat : Int) == 43) = true) : Calls Tryz.prog 135 #[.string s] w fun e w' => e = .returned (.int .i64 1) ∧ w = w' := by
 have h2 : (2 : Int) ≤ s.size := by omega
 have h3 : 2 ≤ s.size := by omega
 go_enter Tryz.func135, Tryz.ntmps135
 go_wp2
 go_ret
 exact ⟨rfl, rfl⟩
theorem Xv (s X : ByteArray) (w : World) (h0 : 0 < s.size) (h1 : ¬ 1 < s.size) (f0 : ((s[0].toNat : Int) == 43) = false) (f1 : ((s[0].toNat : Int) == 45) = true) : Calls Tryz.prog 135 #[.string s] w fun e w' => e = .returned (.int .i64 1) ∧ w = w' := by
 have h2 : ¬ (1 : Int) < s.size := by omega
 go_enter Tryz.func135, Tryz.ntmps135
 go_wp2
 go_ret
 exact ⟨rfl, rfl⟩
theorem Xu (s X : ByteArray) (w : World) (h0 : 0 < s.size) (h1 : 1 < s.size) (hX : s.extract 0 2 = X) (e0 : (X.toList == [38, 38]) = false) (e1 : (X.toList == [124, 124]) = false) (e2 : (X.toList == [61, 61]) = false) (e3 : (X.toList == [33, 61]) = false) (e4 : (X.toList == [60, 61]) = false) (e5 : (X.toList == [62, 61]) = false) (f0 : ((s[0].toNat : Int) == 43) = false) (f1 : ((s[0].toNat : Int) == 45) = true) : Calls Tryz.prog 135 #[.string s] w fun e w' => e = .returned (.int .i64 1) ∧ w = w' := by
 have h2 : (2 : Int) ≤ s.size := by omega
 have h3 : 2 ≤ s.size := by omega
 go_enter Tryz.func135, Tryz.ntmps135
 go_wp2
 go_ret
 exact ⟨rfl, rfl⟩
theorem Xt (s X : ByteArray) (w : World) (h0 : 0 < s.size) (h1 : ¬ 1 < s.size) (f0 : ((s[0].toNat : Int) == 43) = false) (f1 : ((s[0].toNat : Int) == 45) = false) (f2 : ((s[0].toNat : Int) == 42) = true) : Calls Tryz.prog 135 #[.string s] w fun e w' => e = .returned (.int .i64 1) ∧ w = w' := by
 have h2 : ¬ (1 : Int) < s.size := by omega
 go_enter Tryz.func135, Tryz.ntmps135
 go_wp2
 go_ret
 exact ⟨rfl, rfl⟩
theorem Xs (s X : ByteArray) (w : World) (h0 : 0 < s.size) (h1 : 1 < s.size) (hX : s.extract 0 2 = X) (e0 : (X.toList == [38, 38]) = false) (e1 : (X.toList == [124, 124]) = false) (e2 : (X.toList == [61, 61]) = false) (e3 : (X.toList == [33, 61]) = false) (e4 : (X.toList == [60, 61]) = false) (e5 : (X.toList == [62, 61]) = false) (f0 : ((s[0].toNat : Int) == 43) = false) (f1 : ((s[0].toNat : Int) == 45) = false) (f2 : ((s[0].toNat : Int) == 42) = true) : Calls Tryz.prog 135 #[.string s] w fun e w' => e = .returned (.int .i64 1) ∧ w = w' := by
 have h2 : (2 : Int) ≤ s.size := by omega
 have h3 : 2 ≤ s.size := by omega
 go_enter Tryz.func135, Tryz.ntmps135
 go_wp2
 go_ret
 exact ⟨rfl, rfl⟩
theorem Xr (s X : ByteArray) (w : World) (h0 : 0 < s.size) (h1 : ¬ 1 < s.size) (f0 : ((s[0].toNat : Int) == 43) = false) (f1 : ((s[0].toNat : Int) == 45) = false) (f2 : ((s[0].toNat : Int) == 42) = false) (f3 : ((s[0].toNat : Int) == 47) = true) : Calls Tryz.prog 135 #[.string s] w fun e w' => e = .returned (.int .i64 1) ∧ w = w' := by
 have h2 : ¬ (1 : Int) < s.size := by omega
 go_enter Tryz.func135, Tryz.ntmps135
 go_wp2
 go_ret
 exact ⟨rfl, rfl⟩
theorem Xq (s X : ByteArray) (w : World) (h0 : 0 < s.size) (h1 : 1 < s.size) (hX : s.extract 0 2 = X) (e0 : (X.toList == [38, 38]) = false) (e1 : (X.toList == [124, 124]) = false) (e2 : (X.toList == [61, 61]) = false) (e3 : (X.toList == [33, 61]) = false) (e4 : (X.toList == [60, 61]) = false) (e5 : (X.toList == [62, 61]) = false) (f0 : ((s[0].toNat : Int) == 43) = false) (f1 : ((s[0].toNat : Int) == 45) = false) (f2 : ((s[0].toNat : Int) == 42) = false) (f3 : ((s[0].toNat : Int) == 47) = true) : Calls Tryz.prog 135 #[.string s] w fun e w' => e = .returned (.int .i64 1) ∧ w = w' := by
 have h2 : (2 : Int) ≤ s.size := by omega
 have h3 : 2 ≤ s.size := by omega
 go_enter Tryz.func135, Tryz.ntmps135
 go_wp2
 go_ret
 exact ⟨rfl, rfl⟩
theorem Xp (s X : ByteArray) (w : World) (h0 : 0 < s.size) (h1 : ¬ 1 < s.size) (f0 : ((s[0].toNat : Int) == 43) = false) (f1 : ((s[0].toNat : Int) == 45) = false) (f2 : ((s[0].toNat : Int) == 42) = false) (f3 : ((s[0].toNat : Int) == 47) = false) (f4 : ((s[0].toNat : Int) == 37) = true) : Calls Tryz.prog 135 #[.string s] w fun e w' => e = .returned (.int .i64 1) ∧ w = w' := by
 have h2 : ¬ (1 : Int) < s.size := by omega
 go_enter Tryz.func135, Tryz.ntmps135
 go_wp2
 go_ret
 exact ⟨rfl, rfl⟩
theorem Xo (s X : ByteArray) (w : World) (h0 : 0 < s.size) (h1 : 1 < s.size) (hX : s.extract 0 2 = X) (e0 : (X.toList == [38, 38]) = false) (e1 : (X.toList == [124, 124]) = false) (e2 : (X.toList == [61, 61]) = false) (e3 : (X.toList == [33, 61]) = false) (e4 : (X.toList == [60, 61]) = false) (e5 : (X.toList == [62, 61]) = false) (f0 : ((s[0].toNat : Int) == 43) = false) (f1 : ((s[0].toNat : Int) == 45) = false) (f2 : ((s[0].toNat : Int) == 42) = false) (f3 : ((s[0].toNat : Int) == 47) = false) (f4 : ((s[0].toNat : Int) == 37) = true) : Calls Tryz.prog 135 #[.string s] w fun e w' => e = .returned (.int .i64 1) ∧ w = w' := by
 have h2 : (2 : Int) ≤ s.size := by omega
 have h3 : 2 ≤ s.size := by omega
 go_enter Tryz.func135, Tryz.ntmps135
 go_wp2
 go_ret
 exact ⟨rfl, rfl⟩
theorem Xn (s X : ByteArray) (w : World) (h0 : 0 < s.size) (h1 : ¬ 1 < s.size) (f0 : ((s[0].toNat : Int) == 43) = false) (f1 : ((s[0].toNat : Int) == 45) = false) (f2 : ((s[0].toNat : Int) == 42) = false) (f3 : ((s[0].toNat : Int) == 47) = false) (f4 : ((s[0].toNat : Int) == 37) = false) (f5 : ((s[0].toNat : Int) == 60) = true) : Calls Tryz.prog 135 #[.string s] w fun e w' => e = .returned (.int .i64 1) ∧ w = w' := by
 have h2 : ¬ (1 : Int) < s.size := by omega
 go_enter Tryz.func135, Tryz.ntmps135
 go_wp2
 go_ret
 exact ⟨rfl, rfl⟩
theorem Xm (s X : ByteArray) (w : World) (h0 : 0 < s.size) (h1 : 1 < s.size) (hX : s.extract 0 2 = X) (e0 : (X.toList == [38, 38]) = false) (e1 : (X.toList == [124, 124]) = false) (e2 : (X.toList == [61, 61]) = false) (e3 : (X.toList == [33, 61]) = false) (e4 : (X.toList == [60, 61]) = false) (e5 : (X.toList == [62, 61]) = false) (f0 : ((s[0].toNat : Int) == 43) = false) (f1 : ((s[0].toNat : Int) == 45) = false) (f2 : ((s[0].toNat : Int) == 42) = false) (f3 : ((s[0].toNat : Int) == 47) = false) (f4 : ((s[0].toNat : Int) == 37) = false) (f5 : ((s[0].toNat : Int) == 60) = true) : Calls Tryz.prog 135 #[.string s] w fun e w' => e = .returned (.int .i64 1) ∧ w = w' := by
 have h2 : (2 : Int) ≤ s.size := by omega
 have h3 : 2 ≤ s.size := by omega
 go_enter Tryz.func135, Tryz.ntmps135
 go_wp2
 go_ret
 exact ⟨rfl, rfl⟩
theorem Xl (s X : ByteArray) (w : World) (h0 : 0 < s.size) (h1 : ¬ 1 < s.size) (f0 : ((s[0].toNat : Int) == 43) = false) (f1 : ((s[0].toNat : Int) == 45) = false) (f2 : ((s[0].toNat : Int) == 42) = false) (f3 : ((s[0].toNat : Int) == 47) = false) (f4 : ((s[0].toNat : Int) == 37) = false) (f5 : ((s[0].toNat : Int) == 60) = false) (f6 : ((s[0].toNat : Int) == 62) = true) : Calls Tryz.prog 135 #[.string s] w fun e w' => e = .returned (.int .i64 1) ∧ w = w' := by
 have h2 : ¬ (1 : Int) < s.size := by omega
 go_enter Tryz.func135, Tryz.ntmps135
 go_wp2
 go_ret
 exact ⟨rfl, rfl⟩
theorem Xk (s X : ByteArray) (w : World) (h0 : 0 < s.size) (h1 : 1 < s.size) (hX : s.extract 0 2 = X) (e0 : (X.toList == [38, 38]) = false) (e1 : (X.toList == [124, 124]) = false) (e2 : (X.toList == [61, 61]) = false) (e3 : (X.toList == [33, 61]) = false) (e4 : (X.toList == [60, 61]) = false) (e5 : (X.toList == [62, 61]) = false) (f0 : ((s[0].toNat : Int) == 43) = false) (f1 : ((s[0].toNat : Int) == 45) = false) (f2 : ((s[0].toNat : Int) == 42) = false) (f3 : ((s[0].toNat : Int) == 47) = false) (f4 : ((s[0].toNat : Int) == 37) = false) (f5 : ((s[0].toNat : Int) == 60) = false) (f6 : ((s[0].toNat : Int) == 62) = true) : Calls Tryz.prog 135 #[.string s] w fun e w' => e = .returned (.int .i64 1) ∧ w = w' := by
 have h2 : (2 : Int) ≤ s.size := by omega
 have h3 : 2 ≤ s.size := by omega
 go_enter Tryz.func135, Tryz.ntmps135
 go_wp2
 go_ret
 exact ⟨rfl, rfl⟩
theorem Xj (s X : ByteArray) (w : World) (h0 : 0 < s.size) (h1 : ¬ 1 < s.size) (f0 : ((s[0].toNat : Int) == 43) = false) (f1 : ((s[0].toNat : Int) == 45) = false) (f2 : ((s[0].toNat : Int) == 42) = false) (f3 : ((s[0].toNat : Int) == 47) = false) (f4 : ((s[0].toNat : Int) == 37) = false) (f5 : ((s[0].toNat : Int) == 60) = false) (f6 : ((s[0].toNat : Int) == 62) = false) (f7 : ((s[0].toNat : Int) == 33) = true) : Calls Tryz.prog 135 #[.string s] w fun e w' => e = .returned (.int .i64 1) ∧ w = w' := by
 have h2 : ¬ (1 : Int) < s.size := by omega
 go_enter Tryz.func135, Tryz.ntmps135
 go_wp2
 go_ret
 exact ⟨rfl, rfl⟩
theorem Xi (s X : ByteArray) (w : World) (h0 : 0 < s.size) (h1 : 1 < s.size) (hX : s.extract 0 2 = X) (e0 : (X.toList == [38, 38]) = false) (e1 : (X.toList == [124, 124]) = false) (e2 : (X.toList == [61, 61]) = false) (e3 : (X.toList == [33, 61]) = false) (e4 : (X.toList == [60, 61]) = false) (e5 : (X.toList == [62, 61]) = false) (f0 : ((s[0].toNat : Int) == 43) = false) (f1 : ((s[0].toNat : Int) == 45) = false) (f2 : ((s[0].toNat : Int) == 42) = false) (f3 : ((s[0].toNat : Int) == 47) = false) (f4 : ((s[0].toNat : Int) == 37) = false) (f5 : ((s[0].toNat : Int) == 60) = false) (f6 : ((s[0].toNat : Int) == 62) = false) (f7 : ((s[0].toNat : Int) == 33) = true) : Calls Tryz.prog 135 #[.string s] w fun e w' => e = .returned (.int .i64 1) ∧ w = w' := by
 have h2 : (2 : Int) ≤ s.size := by omega
 have h3 : 2 ≤ s.size := by omega
 go_enter Tryz.func135, Tryz.ntmps135
 go_wp2
 go_ret
 exact ⟨rfl, rfl⟩
theorem Xh (s X : ByteArray) (w : World) (h0 : 0 < s.size) (h1 : ¬ 1 < s.size) (f0 : ((s[0].toNat : Int) == 43) = false) (f1 : ((s[0].toNat : Int) == 45) = false) (f2 : ((s[0].toNat : Int) == 42) = false) (f3 : ((s[0].toNat : Int) == 47) = false) (f4 : ((s[0].toNat : Int) == 37) = false) (f5 : ((s[0].toNat : Int) == 60) = false) (f6 : ((s[0].toNat : Int) == 62) = false) (f7 : ((s[0].toNat : Int) == 33) = false) (f8 : ((s[0].toNat : Int) == 61) = true) : Calls Tryz.prog 135 #[.string s] w fun e w' => e = .returned (.int .i64 1) ∧ w = w' := by
 have h2 : ¬ (1 : Int) < s.size := by omega
 go_enter Tryz.func135, Tryz.ntmps135
 go_wp2
 go_ret
 exact ⟨rfl, rfl⟩
theorem Xg (s X : ByteArray) (w : World) (h0 : 0 < s.size) (h1 : 1 < s.size) (hX : s.extract 0 2 = X) (e0 : (X.toList == [38, 38]) = false) (e1 : (X.toList == [124, 124]) = false) (e2 : (X.toList == [61, 61]) = false) (e3 : (X.toList == [33, 61]) = false) (e4 : (X.toList == [60, 61]) = false) (e5 : (X.toList == [62, 61]) = false) (f0 : ((s[0].toNat : Int) == 43) = false) (f1 : ((s[0].toNat : Int) == 45) = false) (f2 : ((s[0].toNat : Int) == 42) = false) (f3 : ((s[0].toNat : Int) == 47) = false) (f4 : ((s[0].toNat : Int) == 37) = false) (f5 : ((s[0].toNat : Int) == 60) = false) (f6 : ((s[0].toNat : Int) == 62) = false) (f7 : ((s[0].toNat : Int) == 33) = false) (f8 : ((s[0].toNat : Int) == 61) = true) : Calls Tryz.prog 135 #[.string s] w fun e w' => e = .returned (.int .i64 1) ∧ w = w' := by
 have h2 : (2 : Int) ≤ s.size := by omega
 have h3 : 2 ≤ s.size := by omega
 go_enter Tryz.func135, Tryz.ntmps135
 go_wp2
 go_ret
 exact ⟨rfl, rfl⟩
theorem Xf (s X : ByteArray) (w : World) (h0 : 0 < s.size) (h1 : ¬ 1 < s.size) (f0 : ((s[0].toNat : Int) == 43) = false) (f1 : ((s[0].toNat : Int) == 45) = false) (f2 : ((s[0].toNat : Int) == 42) = false) (f3 : ((s[0].toNat : Int) == 47) = false) (f4 : ((s[0].toNat : Int) == 37) = false) (f5 : ((s[0].toNat : Int) == 60) = false) (f6 : ((s[0].toNat : Int) == 62) = false) (f7 : ((s[0].toNat : Int) == 33) = false) (f8 : ((s[0].toNat : Int) == 61) = false) (f9 : ((s[0].toNat : Int) == 40) = true) : Calls Tryz.prog 135 #[.string s] w fun e w' => e = .returned (.int .i64 1) ∧ w = w' := by
 have h2 : ¬ (1 : Int) < s.size := by omega
 go_enter Tryz.func135, Tryz.ntmps135
 go_wp2
 go_ret
 exact ⟨rfl, rfl⟩
theorem Xe (s X : ByteArray) (w : World) (h0 : 0 < s.size) (h1 : 1 < s.size) (hX : s.extract 0 2 = X) (e0 : (X.toList == [38, 38]) = false) (e1 : (X.toList == [124, 124]) = false) (e2 : (X.toList == [61, 61]) = false) (e3 : (X.toList == [33, 61]) = false) (e4 : (X.toList == [60, 61]) = false) (e5 : (X.toList == [62, 61]) = false) (f0 : ((s[0].toNat : Int) == 43) = false) (f1 : ((s[0].toNat : Int) == 45) = false) (f2 : ((s[0].toNat : Int) == 42) = false) (f3 : ((s[0].toNat : Int) == 47) = false) (f4 : ((s[0].toNat : Int) == 37) = false) (f5 : ((s[0].toNat : Int) == 60) = false) (f6 : ((s[0].toNat : Int) == 62) = false) (f7 : ((s[0].toNat : Int) == 33) = false) (f8 : ((s[0].toNat : Int) == 61) = false) (f9 : ((s[0].toNat : Int) == 40) = true) : Calls Tryz.prog 135 #[.string s] w fun e w' => e = .returned (.int .i64 1) ∧ w = w' := by
 have h2 : (2 : Int) ≤ s.size := by omega
 have h3 : 2 ≤ s.size := by omega
 go_enter Tryz.func135, Tryz.ntmps135
 go_wp2
 go_ret
 exact ⟨rfl, rfl⟩
theorem Ve (s X : ByteArray) (w : World) (h0 : 0 < s.size) (h1 : ¬ 1 < s.size) (f0 : ((s[0].toNat : Int) == 43) = false) (f1 : ((s[0].toNat : Int) == 45) = false) (f2 : ((s[0].toNat : Int) == 42) = false) (f3 : ((s[0].toNat : Int) == 47) = false) (f4 : ((s[0].toNat : Int) == 37) = false) (f5 : ((s[0].toNat : Int) == 60) = false) (f6 : ((s[0].toNat : Int) == 62) = false) (f7 : ((s[0].toNat : Int) == 33) = false) (f8 : ((s[0].toNat : Int) == 61) = false) (f9 : ((s[0].toNat : Int) == 40) = false) (f10 : ((s[0].toNat : Int) == 41) = true) : Calls Tryz.prog 135 #[.string s] w fun e w' => e = .returned (.int .i64 1) ∧ w = w' := by
 have h2 : ¬ (1 : Int) < s.size := by omega
 go_enter Tryz.func135, Tryz.ntmps135
 go_wp2
 go_ret
 exact ⟨rfl, rfl⟩
theorem Vd (s X : ByteArray) (w : World) (h0 : 0 < s.size) (h1 : 1 < s.size) (hX : s.extract 0 2 = X) (e0 : (X.toList == [38, 38]) = false) (e1 : (X.toList == [124, 124]) = false) (e2 : (X.toList == [61, 61]) = false) (e3 : (X.toList == [33, 61]) = false) (e4 : (X.toList == [60, 61]) = false) (e5 : (X.toList == [62, 61]) = false) (f0 : ((s[0].toNat : Int) == 43) = false) (f1 : ((s[0].toNat : Int) == 45) = false) (f2 : ((s[0].toNat : Int) == 42) = false) (f3 : ((s[0].toNat : Int) == 47) = false) (f4 : ((s[0].toNat : Int) == 37) = false) (f5 : ((s[0].toNat : Int) == 60) = false) (f6 : ((s[0].toNat : Int) == 62) = false) (f7 : ((s[0].toNat : Int) == 33) = false) (f8 : ((s[0].toNat : Int) == 61) = false) (f9 : ((s[0].toNat : Int) == 40) = false) (f10 : ((s[0].toNat : Int) == 41) = true) : Calls Tryz.prog 135 #[.string s] w fun e w' => e = .returned (.int .i64 1) ∧ w = w' := by
 have h2 : (2 : Int) ≤ s.size := by omega
 have h3 : 2 ≤ s.size := by omega
 go_enter Tryz.func135, Tryz.ntmps135
 go_wp2
 go_ret
 exact ⟨rfl, rfl⟩
theorem Vc (s X : ByteArray) (w : World) (h0 : 0 < s.size) (h1 : ¬ 1 < s.size) (f0 : ((s[0].toNat : Int) == 43) = false) (f1 : ((s[0].toNat : Int) == 45) = false) (f2 : ((s[0].toNat : Int) == 42) = false) (f3 : ((s[0].toNat : Int) == 47) = false) (f4 : ((s[0].toNat : Int) == 37) = false) (f5 : ((s[0].toNat : Int) == 60) = false) (f6 : ((s[0].toNat : Int) == 62) = false) (f7 : ((s[0].toNat : Int) == 33) = false) (f8 : ((s[0].toNat : Int) == 61) = false) (f9 : ((s[0].toNat : Int) == 40) = false) (f10 : ((s[0].toNat : Int) == 41) = false) (f11 : ((s[0].toNat : Int) == 123) = true) : Calls Tryz.prog 135 #[.string s] w fun e w' => e = .returned (.int .i64 1) ∧ w = w' := by
 have h2 : ¬ (1 : Int) < s.size := by omega
 go_enter Tryz.func135, Tryz.ntmps135
 go_wp2
 go_ret
 exact ⟨rfl, rfl⟩
theorem Vb (s X : ByteArray) (w : World) (h0 : 0 < s.size) (h1 : 1 < s.size) (hX : s.extract 0 2 = X) (e0 : (X.toList == [38, 38]) = false) (e1 : (X.toList == [124, 124]) = false) (e2 : (X.toList == [61, 61]) = false) (e3 : (X.toList == [33, 61]) = false) (e4 : (X.toList == [60, 61]) = false) (e5 : (X.toList == [62, 61]) = false) (f0 : ((s[0].toNat : Int) == 43) = false) (f1 : ((s[0].toNat : Int) == 45) = false) (f2 : ((s[0].toNat : Int) == 42) = false) (f3 : ((s[0].toNat : Int) == 47) = false) (f4 : ((s[0].toNat : Int) == 37) = false) (f5 : ((s[0].toNat : Int) == 60) = false) (f6 : ((s[0].toNat : Int) == 62) = false) (f7 : ((s[0].toNat : Int) == 33) = false) (f8 : ((s[0].toNat : Int) == 61) = false) (f9 : ((s[0].toNat : Int) == 40) = false) (f10 : ((s[0].toNat : Int) == 41) = false) (f11 : ((s[0].toNat : Int) == 123) = true) : Calls Tryz.prog 135 #[.string s] w fun e w' => e = .returned (.int .i64 1) ∧ w = w' := by
 have h2 : (2 : Int) ≤ s.size := by omega
 have h3 : 2 ≤ s.size := by omega
 go_enter Tryz.func135, Tryz.ntmps135
 go_wp2
 go_ret
 exact ⟨rfl, rfl⟩
theorem Va (s X : ByteArray) (w : World) (h0 : 0 < s.size) (h1 : ¬ 1 < s.size) (f0 : ((s[0].toNat : Int) == 43) = false) (f1 : ((s[0].toNat : Int) == 45) = false) (f2 : ((s[0].toNat : Int) == 42) = false) (f3 : ((s[0].toNat : Int) == 47) = false) (f4 : ((s[0].toNat : Int) == 37) = false) (f5 : ((s[0].toNat : Int) == 60) = false) (f6 : ((s[0].toNat : Int) == 62) = false) (f7 : ((s[0].toNat : Int) == 33) = false) (f8 : ((s[0].toNat : Int) == 61) = false) (f9 : ((s[0].toNat : Int) == 40) = false) (f10 : ((s[0].toNat : Int) == 41) = false) (f11 : ((s[0].toNat : Int) == 123) = false) (f12 : ((s[0].toNat : Int) == 125) = true) : Calls Tryz.prog 135 #[.string s] w fun e w' => e = .returned (.int .i64 1) ∧ w = w' := by
 have h2 : ¬ (1 : Int) < s.size := by omega
 go_enter Tryz.func135, Tryz.ntmps135
 go_wp2
 go_ret
 exact ⟨rfl, rfl⟩
theorem U9 (s X : ByteArray) (w : World) (h0 : 0 < s.size) (h1 : 1 < s.size) (hX : s.extract 0 2 = X) (e0 : (X.toList == [38, 38]) = false) (e1 : (X.toList == [124, 124]) = false) (e2 : (X.toList == [61, 61]) = false) (e3 : (X.toList == [33, 61]) = false) (e4 : (X.toList == [60, 61]) = false) (e5 : (X.toList == [62, 61]) = false) (f0 : ((s[0].toNat : Int) == 43) = false) (f1 : ((s[0].toNat : Int) == 45) = false) (f2 : ((s[0].toNat : Int) == 42) = false) (f3 : ((s[0].toNat : Int) == 47) = false) (f4 : ((s[0].toNat : Int) == 37) = false) (f5 : ((s[0].toNat : Int) == 60) = false) (f6 : ((s[0].toNat : Int) == 62) = false) (f7 : ((s[0].toNat : Int) == 33) = false) (f8 : ((s[0].toNat : Int) == 61) = false) (f9 : ((s[0].toNat : Int) == 40) = false) (f10 : ((s[0].toNat : Int) == 41) = false) (f11 : ((s[0].toNat : Int) == 123) = false) (f12 : ((s[0].toNat : Int) == 125) = true) : Calls Tryz.prog 135 #[.string s] w fun e w' => e = .returned (.int .i64 1) ∧ w = w' := by
 have h2 : (2 : Int) ≤ s.size := by omega
 have h3 : 2 ≤ s.size := by omega
 go_enter Tryz.func135, Tryz.ntmps135
 go_wp2
 go_ret
 exact ⟨rfl, rfl⟩
theorem U8 (s X : ByteArray) (w : World) (h0 : 0 < s.size) (h1 : ¬ 1 < s.size) (f0 : ((s[0].toNat : Int) == 43) = false) (f1 : ((s[0].toNat : Int) == 45) = false) (f2 : ((s[0].toNat : Int) == 42) = false) (f3 : ((s[0].toNat : Int) == 47) = false) (f4 : ((s[0].toNat : Int) == 37) = false) (f5 : ((s[0].toNat : Int) == 60) = false) (f6 : ((s[0].toNat : Int) == 62) = false) (f7 : ((s[0].toNat : Int) == 33) = false) (f8 : ((s[0].toNat : Int) == 61) = false) (f9 : ((s[0].toNat : Int) == 40) = false) (f10 : ((s[0].toNat : Int) == 41) = false) (f11 : ((s[0].toNat : Int) == 123) = false) (f12 : ((s[0].toNat : Int) == 125) = false) (f13 : ((s[0].toNat : Int) == 91) = true) : Calls Tryz.prog 135 #[.string s] w fun e w' => e = .returned (.int .i64 1) ∧ w = w' := by
 have h2 : ¬ (1 : Int) < s.size := by omega
 go_enter Tryz.func135, Tryz.ntmps135
 go_wp2
 go_ret
 exact ⟨rfl, rfl⟩
theorem U7 (s X : ByteArray) (w : World) (h0 : 0 < s.size) (h1 : 1 < s.size) (hX : s.extract 0 2 = X) (e0 : (X.toList == [38, 38]) = false) (e1 : (X.toList == [124, 124]) = false) (e2 : (X.toList == [61, 61]) = false) (e3 : (X.toList == [33, 61]) = false) (e4 : (X.toList == [60, 61]) = false) (e5 : (X.toList == [62, 61]) = false) (f0 : ((s[0].toNat : Int) == 43) = false) (f1 : ((s[0].toNat : Int) == 45) = false) (f2 : ((s[0].toNat : Int) == 42) = false) (f3 : ((s[0].toNat : Int) == 47) = false) (f4 : ((s[0].toNat : Int) == 37) = false) (f5 : ((s[0].toNat : Int) == 60) = false) (f6 : ((s[0].toNat : Int) == 62) = false) (f7 : ((s[0].toNat : Int) == 33) = false) (f8 : ((s[0].toNat : Int) == 61) = false) (f9 : ((s[0].toNat : Int) == 40) = false) (f10 : ((s[0].toNat : Int) == 41) = false) (f11 : ((s[0].toNat : Int) == 123) = false) (f12 : ((s[0].toNat : Int) == 125) = false) (f13 : ((s[0].toNat : Int) == 91) = true) : Calls Tryz.prog 135 #[.string s] w fun e w' => e = .returned (.int .i64 1) ∧ w = w' := by
 have h2 : (2 : Int) ≤ s.size := by omega
 have h3 : 2 ≤ s.size := by omega
 go_enter Tryz.func135, Tryz.ntmps135
 go_wp2
 go_ret
 exact ⟨rfl, rfl⟩
theorem U6 (s X : ByteArray) (w : World) (h0 : 0 < s.size) (h1 : ¬ 1 < s.size) (f0 : ((s[0].toNat : Int) == 43) = false) (f1 : ((s[0].toNat : Int) == 45) = false) (f2 : ((s[0].toNat : Int) == 42) = false) (f3 : ((s[0].toNat : Int) == 47) = false) (f4 : ((s[0].toNat : Int) == 37) = false) (f5 : ((s[0].toNat : Int) == 60) = false) (f6 : ((s[0].toNat : Int) == 62) = false) (f7 : ((s[0].toNat : Int) == 33) = false) (f8 : ((s[0].toNat : Int) == 61) = false) (f9 : ((s[0].toNat : Int) == 40) = false) (f10 : ((s[0].toNat : Int) == 41) = false) (f11 : ((s[0].toNat : Int) == 123) = false) (f12 : ((s[0].toNat : Int) == 125) = false) (f13 : ((s[0].toNat : Int) == 91) = false) (f14 : ((s[0].toNat : Int) == 93) = true) : Calls Tryz.prog 135 #[.string s] w fun e w' => e = .returned (.int .i64 1) ∧ w = w' := by
 have h2 : ¬ (1 : Int) < s.size := by omega
 go_enter Tryz.func135, Tryz.ntmps135
 go_wp2
 go_ret
 exact ⟨rfl, rfl⟩
theorem U5 (s X : ByteArray) (w : World) (h0 : 0 < s.size) (h1 : 1 < s.size) (hX : s.extract 0 2 = X) (e0 : (X.toList == [38, 38]) = false) (e1 : (X.toList == [124, 124]) = false) (e2 : (X.toList == [61, 61]) = false) (e3 : (X.toList == [33, 61]) = false) (e4 : (X.toList == [60, 61]) = false) (e5 : (X.toList == [62, 61]) = false) (f0 : ((s[0].toNat : Int) == 43) = false) (f1 : ((s[0].toNat : Int) == 45) = false) (f2 : ((s[0].toNat : Int) == 42) = false) (f3 : ((s[0].toNat : Int) == 47) = false) (f4 : ((s[0].toNat : Int) == 37) = false) (f5 : ((s[0].toNat : Int) == 60) = false) (f6 : ((s[0].toNat : Int) == 62) = false) (f7 : ((s[0].toNat : Int) == 33) = false) (f8 : ((s[0].toNat : Int) == 61) = false) (f9 : ((s[0].toNat : Int) == 40) = false) (f10 : ((s[0].toNat : Int) == 41) = false) (f11 : ((s[0].toNat : Int) == 123) = false) (f12 : ((s[0].toNat : Int) == 125) = false) (f13 : ((s[0].toNat : Int) == 91) = false) (f14 : ((s[0].toNat : Int) == 93) = true) : Calls Tryz.prog 135 #[.string s] w fun e w' => e = .returned (.int .i64 1) ∧ w = w' := by
 have h2 : (2 : Int) ≤ s.size := by omega
 have h3 : 2 ≤ s.size := by omega
 go_enter Tryz.func135, Tryz.ntmps135
 go_wp2
 go_ret
 exact ⟨rfl, rfl⟩
theorem U4 (s X : ByteArray) (w : World) (h0 : 0 < s.size) (h1 : ¬ 1 < s.size) (f0 : ((s[0].toNat : Int) == 43) = false) (f1 : ((s[0].toNat : Int) == 45) = false) (f2 : ((s[0].toNat : Int) == 42) = false) (f3 : ((s[0].toNat : Int) == 47) = false) (f4 : ((s[0].toNat : Int) == 37) = false) (f5 : ((s[0].toNat : Int) == 60) = false) (f6 : ((s[0].toNat : Int) == 62) = false) (f7 : ((s[0].toNat : Int) == 33) = false) (f8 : ((s[0].toNat : Int) == 61) = false) (f9 : ((s[0].toNat : Int) == 40) = false) (f10 : ((s[0].toNat : Int) == 41) = false) (f11 : ((s[0].toNat : Int) == 123) = false) (f12 : ((s[0].toNat : Int) == 125) = false) (f13 : ((s[0].toNat : Int) == 91) = false) (f14 : ((s[0].toNat : Int) == 93) = false) (f15 : ((s[0].toNat : Int) == 44) = true) : Calls Tryz.prog 135 #[.string s] w fun e w' => e = .returned (.int .i64 1) ∧ w = w' := by
 have h2 : ¬ (1 : Int) < s.size := by omega
 go_enter Tryz.func135, Tryz.ntmps135
 go_wp2
 go_ret
 exact ⟨rfl, rfl⟩
theorem U3 (s X : ByteArray) (w : World) (h0 : 0 < s.size) (h1 : 1 < s.size) (hX : s.extract 0 2 = X) (e0 : (X.toList == [38, 38]) = false) (e1 : (X.toList == [124, 124]) = false) (e2 : (X.toList == [61, 61]) = false) (e3 : (X.toList == [33, 61]) = false) (e4 : (X.toList == [60, 61]) = false) (e5 : (X.toList == [62, 61]) = false) (f0 : ((s[0].toNat : Int) == 43) = false) (f1 : ((s[0].toNat : Int) == 45) = false) (f2 : ((s[0].toNat : Int) == 42) = false) (f3 : ((s[0].toNat : Int) == 47) = false) (f4 : ((s[0].toNat : Int) == 37) = false) (f5 : ((s[0].toNat : Int) == 60) = false) (f6 : ((s[0].toNat : Int) == 62) = false) (f7 : ((s[0].toNat : Int) == 33) = false) (f8 : ((s[0].toNat : Int) == 61) = false) (f9 : ((s[0].toNat : Int) == 40) = false) (f10 : ((s[0].toNat : Int) == 41) = false) (f11 : ((s[0].toNat : Int) == 123) = false) (f12 : ((s[0].toNat : Int) == 125) = false) (f13 : ((s[0].toNat : Int) == 91) = false) (f14 : ((s[0].toNat : Int) == 93) = false) (f15 : ((s[0].toNat : Int) == 44) = true) : Calls Tryz.prog 135 #[.string s] w fun e w' => e = .returned (.int .i64 1) ∧ w = w' := by
 have h2 : (2 : Int) ≤ s.size := by omega
 have h3 : 2 ≤ s.size := by omega
 go_enter Tryz.func135, Tryz.ntmps135
 go_wp2
 go_ret
 exact ⟨rfl, rfl⟩
theorem U2 (s X : ByteArray) (w : World) (h0 : 0 < s.size) (h1 : ¬ 1 < s.size) (f0 : ((s[0].toNat : Int) == 43) = false) (f1 : ((s[0].toNat : Int) == 45) = false) (f2 : ((s[0].toNat : Int) == 42) = false) (f3 : ((s[0].toNat : Int) == 47) = false) (f4 : ((s[0].toNat : Int) == 37) = false) (f5 : ((s[0].toNat : Int) == 60) = false) (f6 : ((s[0].toNat : Int) == 62) = false) (f7 : ((s[0].toNat : Int) == 33) = false) (f8 : ((s[0].toNat : Int) == 61) = false) (f9 : ((s[0].toNat : Int) == 40) = false) (f10 : ((s[0].toNat : Int) == 41) = false) (f11 : ((s[0].toNat : Int) == 123) = false) (f12 : ((s[0].toNat : Int) == 125) = false) (f13 : ((s[0].toNat : Int) == 91) = false) (f14 : ((s[0].toNat : Int) == 93) = false) (f15 : ((s[0].toNat : Int) == 44) = false) (f16 : ((s[0].toNat : Int) == 59) = true) : Calls Tryz.prog 135 #[.string s] w fun e w' => e = .returned (.int .i64 1) ∧ w = w' := by
 have h2 : ¬ (1 : Int) < s.size := by omega
 go_enter Tryz.func135, Tryz.ntmps135
 go_wp2
 go_ret
 exact ⟨rfl, rfl⟩
theorem U1 (s X : ByteArray) (w : World) (h0 : 0 < s.size) (h1 : 1 < s.size) (hX : s.extract 0 2 = X) (e0 : (X.toList == [38, 38]) = false) (e1 : (X.toList == [124, 124]) = false) (e2 : (X.toList == [61, 61]) = false) (e3 : (X.toList == [33, 61]) = false) (e4 : (X.toList == [60, 61]) = false) (e5 : (X.toList == [62, 61]) = false) (f0 : ((s[0].toNat : Int) == 43) = false) (f1 : ((s[0].toNat : Int) == 45) = false) (f2 : ((s[0].toNat : Int) == 42) = false) (f3 : ((s[0].toNat : Int) == 47) = false) (f4 : ((s[0].toNat : Int) == 37) = false) (f5 : ((s[0].toNat : Int) == 60) = false) (f6 : ((s[0].toNat : Int) == 62) = false) (f7 : ((s[0].toNat : Int) == 33) = false) (f8 : ((s[0].toNat : Int) == 61) = false) (f9 : ((s[0].toNat : Int) == 40) = false) (f10 : ((s[0].toNat : Int) == 41) = false) (f11 : ((s[0].toNat : Int) == 123) = false) (f12 : ((s[0].toNat : Int) == 125) = false) (f13 : ((s[0].toNat : Int) == 91) = false) (f14 : ((s[0].toNat : Int) == 93) = false) (f15 : ((s[0].toNat : Int) == 44) = false) (f16 : ((s[0].toNat : Int) == 59) = true) : Calls Tryz.prog 135 #[.string s] w fun e w' => e = .returned (.int .i64 1) ∧ w = w' := by
 have h2 : (2 : Int) ≤ s.size := by omega
 have h3 : 2 ≤ s.size := by omega
 go_enter Tryz.func135, Tryz.ntmps135
 go_wp2
 go_ret
 exact ⟨rfl, rfl⟩
theorem U0 (s X : ByteArray) (w : World) (h0 : 0 < s.size) (h1 : ¬ 1 < s.size) (f0 : ((s[0].toNat : Int) == 43) = false) (f1 : ((s[0].toNat : Int) == 45) = false) (f2 : ((s[0].toNat : Int) == 42) = false) (f3 : ((s[0].toNat : Int) == 47) = false) (f4 : ((s[0].toNat : Int) == 37) = false) (f5 : ((s[0].toNat : Int) == 60) = false) (f6 : ((s[0].toNat : Int) == 62) = false) (f7 : ((s[0].toNat : Int) == 33) = false) (f8 : ((s[0].toNat : Int) == 61) = false) (f9 : ((s[0].toNat : Int) == 40) = false) (f10 : ((s[0].toNat : Int) == 41) = false) (f11 : ((s[0].toNat : Int) == 123) = false) (f12 : ((s[0].toNat : Int) == 125) = false) (f13 : ((s[0].toNat : Int) == 91) = false) (f14 : ((s[0].toNat : Int) == 93) = false) (f15 : ((s[0].toNat : Int) == 44) = false) (f16 : ((s[0].toNat : Int) == 59) = false) (f17 : ((s[0].toNat : Int) == 58) = true) : Calls Tryz.prog 135 #[.string s] w fun e w' => e = .returned (.int .i64 1) ∧ w = w' := by
 have h2 : ¬ (1 : Int) < s.size := by omega
 go_enter Tryz.func135, Tryz.ntmps135
 go_wp2
 go_ret
 exact ⟨rfl, rfl⟩
theorem Uz (s X : ByteArray) (w : World) (h0 : 0 < s.size) (h1 : 1 < s.size) (hX : s.extract 0 2 = X) (e0 : (X.toList == [38, 38]) = false) (e1 : (X.toList == [124, 124]) = false) (e2 : (X.toList == [61, 61]) = false) (e3 : (X.toList == [33, 61]) = false) (e4 : (X.toList == [60, 61]) = false) (e5 : (X.toList == [62, 61]) = false) (f0 : ((s[0].toNat : Int) == 43) = false) (f1 : ((s[0].toNat : Int) == 45) = false) (f2 : ((s[0].toNat : Int) == 42) = false) (f3 : ((s[0].toNat : Int) == 47) = false) (f4 : ((s[0].toNat : Int) == 37) = false) (f5 : ((s[0].toNat : Int) == 60) = false) (f6 : ((s[0].toNat : Int) == 62) = false) (f7 : ((s[0].toNat : Int) == 33) = false) (f8 : ((s[0].toNat : Int) == 61) = false) (f9 : ((s[0].toNat : Int) == 40) = false) (f10 : ((s[0].toNat : Int) == 41) = false) (f11 : ((s[0].toNat : Int) == 123) = false) (f12 : ((s[0].toNat : Int) == 125) = false) (f13 : ((s[0].toNat : Int) == 91) = false) (f14 : ((s[0].toNat : Int) == 93) = false) (f15 : ((s[0].toNat : Int) == 44) = false) (f16 : ((s[0].toNat : Int) == 59) = false) (f17 : ((s[0].toNat : Int) == 58) = true) : Calls Tryz.prog 135 #[.string s] w fun e w' => e = .returned (.int .i64 1) ∧ w = w' := by
 have h2 : (2 : Int) ≤ s.size := by omega
 have h3 : 2 ≤ s.size := by omega
 go_enter Tryz.func135, Tryz.ntmps135
 go_wp2
 go_ret
 exact ⟨rfl, rfl⟩
theorem Uy (s X : ByteArray) (w : World) (h0 : 0 < s.size) (h1 : ¬ 1 < s.size) (f0 : ((s[0].toNat : Int) == 43) = false) (f1 : ((s[0].toNat : Int) == 45) = false) (f2 : ((s[0].toNat : Int) == 42) = false) (f3 : ((s[0].toNat : Int) == 47) = false) (f4 : ((s[0].toNat : Int) == 37) = false) (f5 : ((s[0].toNat : Int) == 60) = false) (f6 : ((s[0].toNat : Int) == 62) = false) (f7 : ((s[0].toNat : Int) == 33) = false) (f8 : ((s[0].toNat : Int) == 61) = false) (f9 : ((s[0].toNat : Int) == 40) = false) (f10 : ((s[0].toNat : Int) == 41) = false) (f11 : ((s[0].toNat : Int) == 123) = false) (f12 : ((s[0].toNat : Int) == 125) = false) (f13 : ((s[0].toNat : Int) == 91) = false) (f14 : ((s[0].toNat : Int) == 93) = false) (f15 : ((s[0].toNat : Int) == 44) = false) (f16 : ((s[0].toNat : Int) == 59) = false) (f17 : ((s[0].toNat : Int) == 58) = false) (f18 : ((s[0].toNat : Int) == 46) = true) : Calls Tryz.prog 135 #[.string s] w fun e w' => e = .returned (.int .i64 1) ∧ w = w' := by
 have h2 : ¬ (1 : Int) < s.size := by omega
 go_enter Tryz.func135, Tryz.ntmps135
 go_wp2
 go_ret
 exact ⟨rfl, rfl⟩
theorem Ux (s X : ByteArray) (w : World) (h0 : 0 < s.size) (h1 : 1 < s.size) (hX : s.extract 0 2 = X) (e0 : (X.toList == [38, 38]) = false) (e1 : (X.toList == [124, 124]) = false) (e2 : (X.toList == [61, 61]) = false) (e3 : (X.toList == [33, 61]) = false) (e4 : (X.toList == [60, 61]) = false) (e5 : (X.toList == [62, 61]) = false) (f0 : ((s[0].toNat : Int) == 43) = false) (f1 : ((s[0].toNat : Int) == 45) = false) (f2 : ((s[0].toNat : Int) == 42) = false) (f3 : ((s[0].toNat : Int) == 47) = false) (f4 : ((s[0].toNat : Int) == 37) = false) (f5 : ((s[0].toNat : Int) == 60) = false) (f6 : ((s[0].toNat : Int) == 62) = false) (f7 : ((s[0].toNat : Int) == 33) = false) (f8 : ((s[0].toNat : Int) == 61) = false) (f9 : ((s[0].toNat : Int) == 40) = false) (f10 : ((s[0].toNat : Int) == 41) = false) (f11 : ((s[0].toNat : Int) == 123) = false) (f12 : ((s[0].toNat : Int) == 125) = false) (f13 : ((s[0].toNat : Int) == 91) = false) (f14 : ((s[0].toNat : Int) == 93) = false) (f15 : ((s[0].toNat : Int) == 44) = false) (f16 : ((s[0].toNat : Int) == 59) = false) (f17 : ((s[0].toNat : Int) == 58) = false) (f18 : ((s[0].toNat : Int) == 46) = true) : Calls Tryz.prog 135 #[.string s] w fun e w' => e = .returned (.int .i64 1) ∧ w = w' := by
 have h2 : (2 : Int) ≤ s.size := by omega
 have h3 : 2 ≤ s.size := by omega
 go_enter Tryz.func135, Tryz.ntmps135
 go_wp2
 go_ret
 exact ⟨rfl, rfl⟩
theorem Uw (s X : ByteArray) (w : World) (h0 : 0 < s.size) (h1 : ¬ 1 < s.size) (f0 : ((s[0].toNat : Int) == 43) = false) (f1 : ((s[0].toNat : Int) == 45) = false) (f2 : ((s[0].toNat : Int) == 42) = false) (f3 : ((s[0].toNat : Int) == 47) = false) (f4 : ((s[0].toNat : Int) == 37) = false) (f5 : ((s[0].toNat : Int) == 60) = false) (f6 : ((s[0].toNat : Int) == 62) = false) (f7 : ((s[0].toNat : Int) == 33) = false) (f8 : ((s[0].toNat : Int) == 61) = false) (f9 : ((s[0].toNat : Int) == 40) = false) (f10 : ((s[0].toNat : Int) == 41) = false) (f11 : ((s[0].toNat : Int) == 123) = false) (f12 : ((s[0].toNat : Int) == 125) = false) (f13 : ((s[0].toNat : Int) == 91) = false) (f14 : ((s[0].toNat : Int) == 93) = false) (f15 : ((s[0].toNat : Int) == 44) = false) (f16 : ((s[0].toNat : Int) == 59) = false) (f17 : ((s[0].toNat : Int) == 58) = false) (f18 : ((s[0].toNat : Int) == 46) = false) : Calls Tryz.prog 135 #[.string s] w fun e w' => e = .returned (.int .i64 0) ∧ w = w' := by
 have h2 : ¬ (1 : Int) < s.size := by omega
 go_enter Tryz.func135, Tryz.ntmps135
 go_wp2
 go_ret
 exact ⟨rfl, rfl⟩
theorem Uv (s X : ByteArray) (w : World) (h0 : 0 < s.size) (h1 : 1 < s.size) (hX : s.extract 0 2 = X) (e0 : (X.toList == [38, 38]) = false) (e1 : (X.toList == [124, 124]) = false) (e2 : (X.toList == [61, 61]) = false) (e3 : (X.toList == [33, 61]) = false) (e4 : (X.toList == [60, 61]) = false) (e5 : (X.toList == [62, 61]) = false) (f0 : ((s[0].toNat : Int) == 43) = false) (f1 : ((s[0].toNat : Int) == 45) = false) (f2 : ((s[0].toNat : Int) == 42) = false) (f3 : ((s[0].toNat : Int) == 47) = false) (f4 : ((s[0].toNat : Int) == 37) = false) (f5 : ((s[0].toNat : Int) == 60) = false) (f6 : ((s[0].toNat : Int) == 62) = false) (f7 : ((s[0].toNat : Int) == 33) = false) (f8 : ((s[0].toNat : Int) == 61) = false) (f9 : ((s[0].toNat : Int) == 40) = false) (f10 : ((s[0].toNat : Int) == 41) = false) (f11 : ((s[0].toNat : Int) == 123) = false) (f12 : ((s[0].toNat : Int) == 125) = false) (f13 : ((s[0].toNat : Int) == 91) = false) (f14 : ((s[0].toNat : Int) == 93) = false) (f15 : ((s[0].toNat : Int) == 44) = false) (f16 : ((s[0].toNat : Int) == 59) = false) (f17 : ((s[0].toNat : Int) == 58) = false) (f18 : ((s[0].toNat : Int) == 46) = false) : Calls Tryz.prog 135 #[.string s] w fun e w' => e = .returned (.int .i64 0) ∧ w = w' := by
 have h2 : (2 : Int) ≤ s.size := by omega
 have h3 : 2 ≤ s.size := by omega
 go_enter Tryz.func135, Tryz.ntmps135
 go_wp2
 go_ret
 exact ⟨rfl, rfl⟩
theorem Jt {l : List UInt8} (h : l.take 2 ∈ O5) : sgn l = 2 := by rw [sgn, if_pos h]
theorem Ar {l : List UInt8} (h : ¬ l.take 2 ∈ O5) (h2 : l.headD 0 ∈ a8q) : sgn l = 1 := by rw [sgn, if_neg h, if_pos h2]
theorem a54 {l : List UInt8} (h : ¬ l.take 2 ∈ O5) (h2 : ¬ l.headD 0 ∈ a8q) : sgn l = 0 := by rw [sgn, if_neg h, if_neg h2]
theorem M8 {s : ByteArray} {l : List UInt8} (h : s.data.toList = l) : (s.toList == l) = true := by rw [ByteArray.toList_eq, h]; simp
theorem Vf {l : List UInt8} (h : ¬ 1 < l.length) : ¬ l.take 2 ∈ O5 := by
 intro hm
 have h6 : ∀ x ∈ O5, x.length = 2 := by decide
 have := h6 _ hm
 rw [List.length_take] at this; omega
theorem J9 (s : ByteArray) (w : World) (h0 : 0 < s.size) : Calls Tryz.prog 135 #[.string s] w fun e w' => e = .returned (.int .i64 (sgn s.data.toList : Nat)) ∧ w = w' := by
 have hhd := Ck s h0
 by_cases h1 : 1 < s.size
 ·have hX : (s.extract 0 2).data.toList = s.data.toList.take 2 := by rw [Hz]; simp
  by_cases h0x : s.data.toList.take 2 = [38, 38]
  ·rw [Jt (by rw [h0x]; decide)]
   exact a78 s _ w h1 rfl  (M8 (by rw [hX]; exact h0x))
  by_cases h1x : s.data.toList.take 2 = [124, 124]
  ·rw [Jt (by rw [h1x]; decide)]
   exact a77 s _ w h1 rfl (Ae (by rw [hX]; exact h0x)) (M8 (by rw [hX]; exact h1x))
  by_cases h2x : s.data.toList.take 2 = [61, 61]
  ·rw [Jt (by rw [h2x]; decide)]
   exact a74 s _ w h1 rfl (Ae (by rw [hX]; exact h0x)) (Ae (by rw [hX]; exact h1x)) (M8 (by rw [hX]; exact h2x))
  by_cases h3x : s.data.toList.take 2 = [33, 61]
  ·rw [Jt (by rw [h3x]; decide)]
   exact a73 s _ w h1 rfl (Ae (by rw [hX]; exact h0x)) (Ae (by rw [hX]; exact h1x)) (Ae (by rw [hX]; exact h2x)) (M8 (by rw [hX]; exact h3x))
  by_cases h4x : s.data.toList.take 2 = [60, 61]
  ·rw [Jt (by rw [h4x]; decide)]
   exact a71 s _ w h1 rfl (Ae (by rw [hX]; exact h0x)) (Ae (by rw [hX]; exact h1x)) (Ae (by rw [hX]; exact h2x)) (Ae (by rw [hX]; exact h3x)) (M8 (by rw [hX]; exact h4x))
  by_cases h5x : s.data.toList.take 2 = [62, 61]
  ·rw [Jt (by rw [h5x]; decide)]
   exact a7z s _ w h1 rfl (Ae (by rw [hX]; exact h0x)) (Ae (by rw [hX]; exact h1x)) (Ae (by rw [hX]; exact h2x)) (Ae (by rw [hX]; exact h3x)) (Ae (by rw [hX]; exact h4x)) (M8 (by rw [hX]; exact h5x))
  have hno : ¬ s.data.toList.take 2 ∈ O5 := by simp [O5, h0x, h1x, h2x, h3x, h4x, h5x]
  by_cases g0 : s[0] = 43
  ·rw [Ar hno (by rw [hhd, g0]; decide)]
   exact Xw s _ w h0 h1 rfl (Ae (by rw [hX]; exact h0x)) (Ae (by rw [hX]; exact h1x)) (Ae (by rw [hX]; exact h2x)) (Ae (by rw [hX]; exact h3x)) (Ae (by rw [hX]; exact h4x)) (Ae (by rw [hX]; exact h5x))  (by rw [g0]; rfl)
  by_cases g1 : s[0] = 45
  ·rw [Ar hno (by rw [hhd, g1]; decide)]
   exact Xu s _ w h0 h1 rfl (Ae (by rw [hX]; exact h0x)) (Ae (by rw [hX]; exact h1x)) (Ae (by rw [hX]; exact h2x)) (Ae (by rw [hX]; exact h3x)) (Ae (by rw [hX]; exact h4x)) (Ae (by rw [hX]; exact h5x)) (Ac (n := 43) (by decide) g0) (by rw [g1]; rfl)
  by_cases g2 : s[0] = 42
  ·rw [Ar hno (by rw [hhd, g2]; decide)]
   exact Xs s _ w h0 h1 rfl (Ae (by rw [hX]; exact h0x)) (Ae (by rw [hX]; exact h1x)) (Ae (by rw [hX]; exact h2x)) (Ae (by rw [hX]; exact h3x)) (Ae (by rw [hX]; exact h4x)) (Ae (by rw [hX]; exact h5x)) (Ac (n := 43) (by decide) g0) (Ac (n := 45) (by decide) g1) (by rw [g2]; rfl)
  by_cases g3 : s[0] = 47
  ·rw [Ar hno (by rw [hhd, g3]; decide)]
   exact Xq s _ w h0 h1 rfl (Ae (by rw [hX]; exact h0x)) (Ae (by rw [hX]; exact h1x)) (Ae (by rw [hX]; exact h2x)) (Ae (by rw [hX]; exact h3x)) (Ae (by rw [hX]; exact h4x)) (Ae (by rw [hX]; exact h5x)) (Ac (n := 43) (by decide) g0) (Ac (n := 45) (by decide) g1) (Ac (n := 42) (by decide) g2) (by rw [g3]; rfl)
  by_cases g4 : s[0] = 37
  ·rw [Ar hno (by rw [hhd, g4]; decide)]
   exact Xo s _ w h0 h1 rfl (Ae (by rw [hX]; exact h0x)) (Ae (by rw [hX]; exact h1x)) (Ae (by rw [hX]; exact h2x)) (Ae (by rw [hX]; exact h3x)) (Ae (by rw [hX]; exact h4x)) (Ae (by rw [hX]; exact h5x)) (Ac (n := 43) (by decide) g0) (Ac (n := 45) (by decide) g1) (Ac (n := 42) (by decide) g2) (Ac (n := 47) (by decide) g3) (by rw [g4]; rfl)
  by_cases g5 : s[0] = 60
  ·rw [Ar hno (by rw [hhd, g5]; decide)]
   exact Xm s _ w h0 h1 rfl (Ae (by rw [hX]; exact h0x)) (Ae (by rw [hX]; exact h1x)) (Ae (by rw [hX]; exact h2x)) (Ae (by rw [hX]; exact h3x)) (Ae (by rw [hX]; exact h4x)) (Ae (by rw [hX]; exact h5x)) (Ac (n := 43) (by decide) g0) (Ac (n := 45) (by decide) g1) (Ac (n := 42) (by decide) g2) (Ac (n := 47) (by decide) g3) (Ac (n := 37) (by decide) g4) (by rw [g5]; rfl)
  by_cases g6 : s[0] = 62
  ·rw [Ar hno (by rw [hhd, g6]; decide)]
   exact Xk s _ w h0 h1 rfl (Ae (by rw [hX]; exact h0x)) (Ae (by rw [hX]; exact h1x)) (Ae (by rw [hX]; exact h2x)) (Ae (by rw [hX]; exact h3x)) (Ae (by rw [hX]; exact h4x)) (Ae (by rw [hX]; exact h5x)) (Ac (n := 43) (by decide) g0) (Ac (n := 45) (by decide) g1) (Ac (n := 42) (by decide) g2) (Ac (n := 47) (by decide) g3) (Ac (n := 37) (by decide) g4) (Ac (n := 60) (by decide) g5) (by rw [g6]; rfl)
  by_cases g7 : s[0] = 33
  ·rw [Ar hno (by rw [hhd, g7]; decide)]
   exact Xi s _ w h0 h1 rfl (Ae (by rw [hX]; exact h0x)) (Ae (by rw [hX]; exact h1x)) (Ae (by rw [hX]; exact h2x)) (Ae (by rw [hX]; exact h3x)) (Ae (by rw [hX]; exact h4x)) (Ae (by rw [hX]; exact h5x)) (Ac (n := 43) (by decide) g0) (Ac (n := 45) (by decide) g1) (Ac (n := 42) (by decide) g2) (Ac (n := 47) (by decide) g3) (Ac (n := 37) (by decide) g4) (Ac (n := 60) (by decide) g5) (Ac (n := 62) (by decide) g6) (by rw [g7]; rfl)
  by_cases g8 : s[0] = 61
  ·rw [Ar hno (by rw [hhd, g8]; decide)]
   exact Xg s _ w h0 h1 rfl (Ae (by rw [hX]; exact h0x)) (Ae (by rw [hX]; exact h1x)) (Ae (by rw [hX]; exact h2x)) (Ae (by rw [hX]; exact h3x)) (Ae (by rw [hX]; exact h4x)) (Ae (by rw [hX]; exact h5x)) (Ac (n := 43) (by decide) g0) (Ac (n := 45) (by decide) g1) (Ac (n := 42) (by decide) g2) (Ac (n := 47) (by decide) g3) (Ac (n := 37) (by decide) g4) (Ac (n := 60) (by decide) g5) (Ac (n := 62) (by decide) g6) (Ac (n := 33) (by decide) g7) (by rw [g8]; rfl)
  by_cases g9 : s[0] = 40
  ·rw [Ar hno (by rw [hhd, g9]; decide)]
   exact Xe s _ w h0 h1 rfl (Ae (by rw [hX]; exact h0x)) (Ae (by rw [hX]; exact h1x)) (Ae (by rw [hX]; exact h2x)) (Ae (by rw [hX]; exact h3x)) (Ae (by rw [hX]; exact h4x)) (Ae (by rw [hX]; exact h5x)) (Ac (n := 43) (by decide) g0) (Ac (n := 45) (by decide) g1) (Ac (n := 42) (by decide) g2) (Ac (n := 47) (by decide) g3) (Ac (n := 37) (by decide) g4) (Ac (n := 60) (by decide) g5) (Ac (n := 62) (by decide) g6) (Ac (n := 33) (by decide) g7) (Ac (n := 61) (by decide) g8) (by rw [g9]; rfl)
  by_cases g10 : s[0] = 41
  ·rw [Ar hno (by rw [hhd, g10]; decide)]
   exact Vd s _ w h0 h1 rfl (Ae (by rw [hX]; exact h0x)) (Ae (by rw [hX]; exact h1x)) (Ae (by rw [hX]; exact h2x)) (Ae (by rw [hX]; exact h3x)) (Ae (by rw [hX]; exact h4x)) (Ae (by rw [hX]; exact h5x)) (Ac (n := 43) (by decide) g0) (Ac (n := 45) (by decide) g1) (Ac (n := 42) (by decide) g2) (Ac (n := 47) (by decide) g3) (Ac (n := 37) (by decide) g4) (Ac (n := 60) (by decide) g5) (Ac (n := 62) (by decide) g6) (Ac (n := 33) (by decide) g7) (Ac (n := 61) (by decide) g8) (Ac (n := 40) (by decide) g9) (by rw [g10]; rfl)
  by_cases g11 : s[0] = 123
  ·rw [Ar hno (by rw [hhd, g11]; decide)]
   exact Vb s _ w h0 h1 rfl (Ae (by rw [hX]; exact h0x)) (Ae (by rw [hX]; exact h1x)) (Ae (by rw [hX]; exact h2x)) (Ae (by rw [hX]; exact h3x)) (Ae (by rw [hX]; exact h4x)) (Ae (by rw [hX]; exact h5x)) (Ac (n := 43) (by decide) g0) (Ac (n := 45) (by decide) g1) (Ac (n := 42) (by decide) g2) (Ac (n := 47) (by decide) g3) (Ac (n := 37) (by decide) g4) (Ac (n := 60) (by decide) g5) (Ac (n := 62) (by decide) g6) (Ac (n := 33) (by decide) g7) (Ac (n := 61) (by decide) g8) (Ac (n := 40) (by decide) g9) (Ac (n := 41) (by decide) g10) (by rw [g11]; rfl)
  by_cases g12 : s[0] = 125
  ·rw [Ar hno (by rw [hhd, g12]; decide)]
   exact U9 s _ w h0 h1 rfl (Ae (by rw [hX]; exact h0x)) (Ae (by rw [hX]; exact h1x)) (Ae (by rw [hX]; exact h2x)) (Ae (by rw [hX]; exact h3x)) (Ae (by rw [hX]; exact h4x)) (Ae (by rw [hX]; exact h5x)) (Ac (n := 43) (by decide) g0) (Ac (n := 45) (by decide) g1) (Ac (n := 42) (by decide) g2) (Ac (n := 47) (by decide) g3) (Ac (n := 37) (by decide) g4) (Ac (n := 60) (by decide) g5) (Ac (n := 62) (by decide) g6) (Ac (n := 33) (by decide) g7) (Ac (n := 61) (by decide) g8) (Ac (n := 40) (by decide) g9) (Ac (n := 41) (by decide) g10) (Ac (n := 123) (by decide) g11) (by rw [g12]; rfl)
  by_cases g13 : s[0] = 91
  ·rw [Ar hno (by rw [hhd, g13]; decide)]
   exact U7 s _ w h0 h1 rfl (Ae (by rw [hX]; exact h0x)) (Ae (by rw [hX]; exact h1x)) (Ae (by rw [hX]; exact h2x)) (Ae (by rw [hX]; exact h3x)) (Ae (by rw [hX]; exact h4x)) (Ae (by rw [hX]; exact h5x)) (Ac (n := 43) (by decide) g0) (Ac (n := 45) (by decide) g1) (Ac (n := 42) (by decide) g2) (Ac (n := 47) (by decide) g3) (Ac (n := 37) (by decide) g4) (Ac (n := 60) (by decide) g5) (Ac (n := 62) (by decide) g6) (Ac (n := 33) (by decide) g7) (Ac (n := 61) (by decide) g8) (Ac (n := 40) (by decide) g9) (Ac (n := 41) (by decide) g10) (Ac (n := 123) (by decide) g11) (Ac (n := 125) (by decide) g12) (by rw [g13]; rfl)
  by_cases g14 : s[0] = 93
  ·rw [Ar hno (by rw [hhd, g14]; decide)]
   exact U5 s _ w h0 h1 rfl (Ae (by rw [hX]; exact h0x)) (Ae (by rw [hX]; exact h1x)) (Ae (by rw [hX]; exact h2x)) (Ae (by rw [hX]; exact h3x)) (Ae (by rw [hX]; exact h4x)) (Ae (by rw [hX]; exact h5x)) (Ac (n := 43) (by decide) g0) (Ac (n := 45) (by decide) g1) (Ac (n := 42) (by decide) g2) (Ac (n := 47) (by decide) g3) (Ac (n := 37) (by decide) g4) (Ac (n := 60) (by decide) g5) (Ac (n := 62) (by decide) g6) (Ac (n := 33) (by decide) g7) (Ac (n := 61) (by decide) g8) (Ac (n := 40) (by decide) g9) (Ac (n := 41) (by decide) g10) (Ac (n := 123) (by decide) g11) (Ac (n := 125) (by decide) g12) (Ac (n := 91) (by decide) g13) (by rw [g14]; rfl)
  by_cases g15 : s[0] = 44
  ·rw [Ar hno (by rw [hhd, g15]; decide)]
   exact U3 s _ w h0 h1 rfl (Ae (by rw [hX]; exact h0x)) (Ae (by rw [hX]; exact h1x)) (Ae (by rw [hX]; exact h2x)) (Ae (by rw [hX]; exact h3x)) (Ae (by rw [hX]; exact h4x)) (Ae (by rw [hX]; exact h5x)) (Ac (n := 43) (by decide) g0) (Ac (n := 45) (by decide) g1) (Ac (n := 42) (by decide) g2) (Ac (n := 47) (by decide) g3) (Ac (n := 37) (by decide) g4) (Ac (n := 60) (by decide) g5) (Ac (n := 62) (by decide) g6) (Ac (n := 33) (by decide) g7) (Ac (n := 61) (by decide) g8) (Ac (n := 40) (by decide) g9) (Ac (n := 41) (by decide) g10) (Ac (n := 123) (by decide) g11) (Ac (n := 125) (by decide) g12) (Ac (n := 91) (by decide) g13) (Ac (n := 93) (by decide) g14) (by rw [g15]; rfl)
  by_cases g16 : s[0] = 59
  ·rw [Ar hno (by rw [hhd, g16]; decide)]
   exact U1 s _ w h0 h1 rfl (Ae (by rw [hX]; exact h0x)) (Ae (by rw [hX]; exact h1x)) (Ae (by rw [hX]; exact h2x)) (Ae (by rw [hX]; exact h3x)) (Ae (by rw [hX]; exact h4x)) (Ae (by rw [hX]; exact h5x)) (Ac (n := 43) (by decide) g0) (Ac (n := 45) (by decide) g1) (Ac (n := 42) (by decide) g2) (Ac (n := 47) (by decide) g3) (Ac (n := 37) (by decide) g4) (Ac (n := 60) (by decide) g5) (Ac (n := 62) (by decide) g6) (Ac (n := 33) (by decide) g7) (Ac (n := 61) (by decide) g8) (Ac (n := 40) (by decide) g9) (Ac (n := 41) (by decide) g10) (Ac (n := 123) (by decide) g11) (Ac (n := 125) (by decide) g12) (Ac (n := 91) (by decide) g13) (Ac (n := 93) (by decide) g14) (Ac (n := 44) (by decide) g15) (by rw [g16]; rfl)
  by_cases g17 : s[0] = 58
  ·rw [Ar hno (by rw [hhd, g17]; decide)]
   exact Uz s _ w h0 h1 rfl (Ae (by rw [hX]; exact h0x)) (Ae (by rw [hX]; exact h1x)) (Ae (by rw [hX]; exact h2x)) (Ae (by rw [hX]; exact h3x)) (Ae (by rw [hX]; exact h4x)) (Ae (by rw [hX]; exact h5x)) (Ac (n := 43) (by decide) g0) (Ac (n := 45) (by decide) g1) (Ac (n := 42) (by decide) g2) (Ac (n := 47) (by decide) g3) (Ac (n := 37) (by decide) g4) (Ac (n := 60) (by decide) g5) (Ac (n := 62) (by decide) g6) (Ac (n := 33) (by decide) g7) (Ac (n := 61) (by decide) g8) (Ac (n := 40) (by decide) g9) (Ac (n := 41) (by decide) g10) (Ac (n := 123) (by decide) g11) (Ac (n := 125) (by decide) g12) (Ac (n := 91) (by decide) g13) (Ac (n := 93) (by decide) g14) (Ac (n := 44) (by decide) g15) (Ac (n := 59) (by decide) g16) (by rw [g17]; rfl)
  by_cases g18 : s[0] = 46
  ·rw [Ar hno (by rw [hhd, g18]; decide)]
   exact Ux s _ w h0 h1 rfl (Ae (by rw [hX]; exact h0x)) (Ae (by rw [hX]; exact h1x)) (Ae (by rw [hX]; exact h2x)) (Ae (by rw [hX]; exact h3x)) (Ae (by rw [hX]; exact h4x)) (Ae (by rw [hX]; exact h5x)) (Ac (n := 43) (by decide) g0) (Ac (n := 45) (by decide) g1) (Ac (n := 42) (by decide) g2) (Ac (n := 47) (by decide) g3) (Ac (n := 37) (by decide) g4) (Ac (n := 60) (by decide) g5) (Ac (n := 62) (by decide) g6) (Ac (n := 33) (by decide) g7) (Ac (n := 61) (by decide) g8) (Ac (n := 40) (by decide) g9) (Ac (n := 41) (by decide) g10) (Ac (n := 123) (by decide) g11) (Ac (n := 125) (by decide) g12) (Ac (n := 91) (by decide) g13) (Ac (n := 93) (by decide) g14) (Ac (n := 44) (by decide) g15) (Ac (n := 59) (by decide) g16) (Ac (n := 58) (by decide) g17) (by rw [g18]; rfl)
  rw [a54 hno (by rw [hhd]; simp [a8q, g0, g1, g2, g3, g4, g5, g6, g7, g8, g9, g10, g11, g12, g13, g14, g15, g16, g17, g18])]
  exact Uv s _ w h0 h1 rfl (Ae (by rw [hX]; exact h0x)) (Ae (by rw [hX]; exact h1x)) (Ae (by rw [hX]; exact h2x)) (Ae (by rw [hX]; exact h3x)) (Ae (by rw [hX]; exact h4x)) (Ae (by rw [hX]; exact h5x)) (Ac (n := 43) (by decide) g0) (Ac (n := 45) (by decide) g1) (Ac (n := 42) (by decide) g2) (Ac (n := 47) (by decide) g3) (Ac (n := 37) (by decide) g4) (Ac (n := 60) (by decide) g5) (Ac (n := 62) (by decide) g6) (Ac (n := 33) (by decide) g7) (Ac (n := 61) (by decide) g8) (Ac (n := 40) (by decide) g9) (Ac (n := 41) (by decide) g10) (Ac (n := 123) (by decide) g11) (Ac (n := 125) (by decide) g12) (Ac (n := 91) (by decide) g13) (Ac (n := 93) (by decide) g14) (Ac (n := 44) (by decide) g15) (Ac (n := 59) (by decide) g16) (Ac (n := 58) (by decide) g17) (Ac (n := 46) (by decide) g18)
 ·have hno : ¬ s.data.toList.take 2 ∈ O5 := Vf (by rw [Af]; exact h1)
  by_cases g0 : s[0] = 43
  ·rw [Ar hno (by rw [hhd, g0]; decide)]
   exact Xx s ByteArray.empty w h0 h1  (by rw [g0]; rfl)
  by_cases g1 : s[0] = 45
  ·rw [Ar hno (by rw [hhd, g1]; decide)]
   exact Xv s ByteArray.empty w h0 h1 (Ac (n := 43) (by decide) g0) (by rw [g1]; rfl)
  by_cases g2 : s[0] = 42
  ·rw [Ar hno (by rw [hhd, g2]; decide)]
   exact Xt s ByteArray.empty w h0 h1 (Ac (n := 43) (by decide) g0) (Ac (n := 45) (by decide) g1) (by rw [g2]; rfl)
  by_cases g3 : s[0] = 47
  ·rw [Ar hno (by rw [hhd, g3]; decide)]
   exact Xr s ByteArray.empty w h0 h1 (Ac (n := 43) (by decide) g0) (Ac (n := 45) (by decide) g1) (Ac (n := 42) (by decide) g2) (by rw [g3]; rfl)
  by_cases g4 : s[0] = 37
  ·rw [Ar hno (by rw [hhd, g4]; decide)]
   exact Xp s ByteArray.empty w h0 h1 (Ac (n := 43) (by decide) g0) (Ac (n := 45) (by decide) g1) (Ac (n := 42) (by decide) g2) (Ac (n := 47) (by decide) g3) (by rw [g4]; rfl)
  by_cases g5 : s[0] = 60
  ·rw [Ar hno (by rw [hhd, g5]; decide)]
   exact Xn s ByteArray.empty w h0 h1 (Ac (n := 43) (by decide) g0) (Ac (n := 45) (by decide) g1) (Ac (n := 42) (by decide) g2) (Ac (n := 47) (by decide) g3) (Ac (n := 37) (by decide) g4) (by rw [g5]; rfl)
  by_cases g6 : s[0] = 62
  ·rw [Ar hno (by rw [hhd, g6]; decide)]
   exact Xl s ByteArray.empty w h0 h1 (Ac (n := 43) (by decide) g0) (Ac (n := 45) (by decide) g1) (Ac (n := 42) (by decide) g2) (Ac (n := 47) (by decide) g3) (Ac (n := 37) (by decide) g4) (Ac (n := 60) (by decide) g5) (by rw [g6]; rfl)
  by_cases g7 : s[0] = 33
  ·rw [Ar hno (by rw [hhd, g7]; decide)]
   exact Xj s ByteArray.empty w h0 h1 (Ac (n := 43) (by decide) g0) (Ac (n := 45) (by decide) g1) (Ac (n := 42) (by decide) g2) (Ac (n := 47) (by decide) g3) (Ac (n := 37) (by decide) g4) (Ac (n := 60) (by decide) g5) (Ac (n := 62) (by decide) g6) (by rw [g7]; rfl)
  by_cases g8 : s[0] = 61
  ·rw [Ar hno (by rw [hhd, g8]; decide)]
   exact Xh s ByteArray.empty w h0 h1 (Ac (n := 43) (by decide) g0) (Ac (n := 45) (by decide) g1) (Ac (n := 42) (by decide) g2) (Ac (n := 47) (by decide) g3) (Ac (n := 37) (by decide) g4) (Ac (n := 60) (by decide) g5) (Ac (n := 62) (by decide) g6) (Ac (n := 33) (by decide) g7) (by rw [g8]; rfl)
  by_cases g9 : s[0] = 40
  ·rw [Ar hno (by rw [hhd, g9]; decide)]
   exact Xf s ByteArray.empty w h0 h1 (Ac (n := 43) (by decide) g0) (Ac (n := 45) (by decide) g1) (Ac (n := 42) (by decide) g2) (Ac (n := 47) (by decide) g3) (Ac (n := 37) (by decide) g4) (Ac (n := 60) (by decide) g5) (Ac (n := 62) (by decide) g6) (Ac (n := 33) (by decide) g7) (Ac (n := 61) (by decide) g8) (by rw [g9]; rfl)
  by_cases g10 : s[0] = 41
  ·rw [Ar hno (by rw [hhd, g10]; decide)]
   exact Ve s ByteArray.empty w h0 h1 (Ac (n := 43) (by decide) g0) (Ac (n := 45) (by decide) g1) (Ac (n := 42) (by decide) g2) (Ac (n := 47) (by decide) g3) (Ac (n := 37) (by decide) g4) (Ac (n := 60) (by decide) g5) (Ac (n := 62) (by decide) g6) (Ac (n := 33) (by decide) g7) (Ac (n := 61) (by decide) g8) (Ac (n := 40) (by decide) g9) (by rw [g10]; rfl)
  by_cases g11 : s[0] = 123
  ·rw [Ar hno (by rw [hhd, g11]; decide)]
   exact Vc s ByteArray.empty w h0 h1 (Ac (n := 43) (by decide) g0) (Ac (n := 45) (by decide) g1) (Ac (n := 42) (by decide) g2) (Ac (n := 47) (by decide) g3) (Ac (n := 37) (by decide) g4) (Ac (n := 60) (by decide) g5) (Ac (n := 62) (by decide) g6) (Ac (n := 33) (by decide) g7) (Ac (n := 61) (by decide) g8) (Ac (n := 40) (by decide) g9) (Ac (n := 41) (by decide) g10) (by rw [g11]; rfl)
  by_cases g12 : s[0] = 125
  ·rw [Ar hno (by rw [hhd, g12]; decide)]
   exact Va s ByteArray.empty w h0 h1 (Ac (n := 43) (by decide) g0) (Ac (n := 45) (by decide) g1) (Ac (n := 42) (by decide) g2) (Ac (n := 47) (by decide) g3) (Ac (n := 37) (by decide) g4) (Ac (n := 60) (by decide) g5) (Ac (n := 62) (by decide) g6) (Ac (n := 33) (by decide) g7) (Ac (n := 61) (by decide) g8) (Ac (n := 40) (by decide) g9) (Ac (n := 41) (by decide) g10) (Ac (n := 123) (by decide) g11) (by rw [g12]; rfl)
  by_cases g13 : s[0] = 91
  ·rw [Ar hno (by rw [hhd, g13]; decide)]
   exact U8 s ByteArray.empty w h0 h1 (Ac (n := 43) (by decide) g0) (Ac (n := 45) (by decide) g1) (Ac (n := 42) (by decide) g2) (Ac (n := 47) (by decide) g3) (Ac (n := 37) (by decide) g4) (Ac (n := 60) (by decide) g5) (Ac (n := 62) (by decide) g6) (Ac (n := 33) (by decide) g7) (Ac (n := 61) (by decide) g8) (Ac (n := 40) (by decide) g9) (Ac (n := 41) (by decide) g10) (Ac (n := 123) (by decide) g11) (Ac (n := 125) (by decide) g12) (by rw [g13]; rfl)
  by_cases g14 : s[0] = 93
  ·rw [Ar hno (by rw [hhd, g14]; decide)]
   exact U6 s ByteArray.empty w h0 h1 (Ac (n := 43) (by decide) g0) (Ac (n := 45) (by decide) g1) (Ac (n := 42) (by decide) g2) (Ac (n := 47) (by decide) g3) (Ac (n := 37) (by decide) g4) (Ac (n := 60) (by decide) g5) (Ac (n := 62) (by decide) g6) (Ac (n := 33) (by decide) g7) (Ac (n := 61) (by decide) g8) (Ac (n := 40) (by decide) g9) (Ac (n := 41) (by decide) g10) (Ac (n := 123) (by decide) g11) (Ac (n := 125) (by decide) g12) (Ac (n := 91) (by decide) g13) (by rw [g14]; rfl)
  by_cases g15 : s[0] = 44
  ·rw [Ar hno (by rw [hhd, g15]; decide)]
   exact U4 s ByteArray.empty w h0 h1 (Ac (n := 43) (by decide) g0) (Ac (n := 45) (by decide) g1) (Ac (n := 42) (by decide) g2) (Ac (n := 47) (by decide) g3) (Ac (n := 37) (by decide) g4) (Ac (n := 60) (by decide) g5) (Ac (n := 62) (by decide) g6) (Ac (n := 33) (by decide) g7) (Ac (n := 61) (by decide) g8) (Ac (n := 40) (by decide) g9) (Ac (n := 41) (by decide) g10) (Ac (n := 123) (by decide) g11) (Ac (n := 125) (by decide) g12) (Ac (n := 91) (by decide) g13) (Ac (n := 93) (by decide) g14) (by rw [g15]; rfl)
  by_cases g16 : s[0] = 59
  ·rw [Ar hno (by rw [hhd, g16]; decide)]
   exact U2 s ByteArray.empty w h0 h1 (Ac (n := 43) (by decide) g0) (Ac (n := 45) (by decide) g1) (Ac (n := 42) (by decide) g2) (Ac (n := 47) (by decide) g3) (Ac (n := 37) (by decide) g4) (Ac (n := 60) (by decide) g5) (Ac (n := 62) (by decide) g6) (Ac (n := 33) (by decide) g7) (Ac (n := 61) (by decide) g8) (Ac (n := 40) (by decide) g9) (Ac (n := 41) (by decide) g10) (Ac (n := 123) (by decide) g11) (Ac (n := 125) (by decide) g12) (Ac (n := 91) (by decide) g13) (Ac (n := 93) (by decide) g14) (Ac (n := 44) (by decide) g15) (by rw [g16]; rfl)
  by_cases g17 : s[0] = 58
  ·rw [Ar hno (by rw [hhd, g17]; decide)]
   exact U0 s ByteArray.empty w h0 h1 (Ac (n := 43) (by decide) g0) (Ac (n := 45) (by decide) g1) (Ac (n := 42) (by decide) g2) (Ac (n := 47) (by decide) g3) (Ac (n := 37) (by decide) g4) (Ac (n := 60) (by decide) g5) (Ac (n := 62) (by decide) g6) (Ac (n := 33) (by decide) g7) (Ac (n := 61) (by decide) g8) (Ac (n := 40) (by decide) g9) (Ac (n := 41) (by decide) g10) (Ac (n := 123) (by decide) g11) (Ac (n := 125) (by decide) g12) (Ac (n := 91) (by decide) g13) (Ac (n := 93) (by decide) g14) (Ac (n := 44) (by decide) g15) (Ac (n := 59) (by decide) g16) (by rw [g17]; rfl)
  by_cases g18 : s[0] = 46
  ·rw [Ar hno (by rw [hhd, g18]; decide)]
   exact Uy s ByteArray.empty w h0 h1 (Ac (n := 43) (by decide) g0) (Ac (n := 45) (by decide) g1) (Ac (n := 42) (by decide) g2) (Ac (n := 47) (by decide) g3) (Ac (n := 37) (by decide) g4) (Ac (n := 60) (by decide) g5) (Ac (n := 62) (by decide) g6) (Ac (n := 33) (by decide) g7) (Ac (n := 61) (by decide) g8) (Ac (n := 40) (by decide) g9) (Ac (n := 41) (by decide) g10) (Ac (n := 123) (by decide) g11) (Ac (n := 125) (by decide) g12) (Ac (n := 91) (by decide) g13) (Ac (n := 93) (by decide) g14) (Ac (n := 44) (by decide) g15) (Ac (n := 59) (by decide) g16) (Ac (n := 58) (by decide) g17) (by rw [g18]; rfl)
  rw [a54 hno (by rw [hhd]; simp [a8q, g0, g1, g2, g3, g4, g5, g6, g7, g8, g9, g10, g11, g12, g13, g14, g15, g16, g17, g18])]
  exact Uw s ByteArray.empty w h0 h1 (Ac (n := 43) (by decide) g0) (Ac (n := 45) (by decide) g1) (Ac (n := 42) (by decide) g2) (Ac (n := 47) (by decide) g3) (Ac (n := 37) (by decide) g4) (Ac (n := 60) (by decide) g5) (Ac (n := 62) (by decide) g6) (Ac (n := 33) (by decide) g7) (Ac (n := 61) (by decide) g8) (Ac (n := 40) (by decide) g9) (Ac (n := 41) (by decide) g10) (Ac (n := 123) (by decide) g11) (Ac (n := 125) (by decide) g12) (Ac (n := 91) (by decide) g13) (Ac (n := 93) (by decide) g14) (Ac (n := 44) (by decide) g15) (Ac (n := 59) (by decide) g16) (Ac (n := 58) (by decide) g17) (Ac (n := 46) (by decide) g18)
theorem Rh (s : ByteArray) (h0 : 0 < s.size) (n : Nat) (hn : sgn s.data.toList = n) (w : World) : Calls Tryz.prog 135 #[.string s] w fun e w' => e = .returned (.int .i64 (n : Nat)) ∧ w = w' := hn ▸ J9 s w h0
end
end Go.Proofs.YtoaplbljflhheaaGreat
namespace Go.Proofs.YtoaplbljflhheaaGreat
section
open Go.RowKit
abbrev b0t (o : One) : Value := .tuple #[Jr o.kind 0 0 o.num (bs o.text), .int .i64 (o.size : Nat), .int .i64 o.err]
abbrev Mw (e : Int) : Value := .tuple #[Jr 0 0 0 0 { data := #[] }, .int .i64 0, .int .i64 e]
theorem b2q (s X D Y : ByteArray) (w : World) (k k2 r : Nat) (n e : Int) (hs : s.size ≤ 100000) (hks : k ≤ s.size) (hk2 : (k : Int) + 1 = k2) (hk3 : k2 ≤ s.size) (hk : k < s.size) (e105 : ((s[k].toNat : Int) == 105) = true) (hr : 0 < r) (hX : s.extract 0 k = X) (hY : s.extract k2 s.size = Y)
  (H16a : Hid (∀ w, Calls Tryz.prog 94 #[.string s, .func (.func 132) #[] #[]] w fun e w' => e = .returned (.int .i64 (k : Nat)) ∧ w = w'))
  (H37 : Hid (∀ w, Calls Tryz.prog 169 #[.string X] w fun e w' => e = .returned (.string D) ∧ w = w'))
  (H16b : Hid (∀ w, Calls Tryz.prog 94 #[.string Y, .func (.func 129) #[] #[]] w fun e w' => e = .returned (.int .i64 (r : Nat)) ∧ w = w'))
  (H38 : Hid (∀ w, Calls Tryz.prog 170 #[.string D] w fun x w' => x = .returned (.tuple #[.int .i64 n, .int .i64 e]) ∧ w = w')) :
  Calls Tryz.prog 133 #[.string s] w fun x w' => x = .returned (Mw 4) ∧ Below w.heap.size w w' := by
 have hr2 : (0 : Int) < r := by omega
 go_enter Tryz.func133, Tryz.ntmps133
 go_wp2_with fail
 refine (H16a.out _).mono ?_
 rintro _ w' ⟨rfl, rfl⟩
 go_wp2_with fail
 refine (H37.out _).mono ?_
 rintro _ w' ⟨rfl, rfl⟩
 go_wp2_with fail
 refine (H16b.out _).mono ?_
 rintro _ w' ⟨rfl, rfl⟩
 go_wp2
 refine bodyPost_ret (v := Mw 4) (by simp [results, Tryz.results133, go_sem]) rfl ⟨rfl, ?_⟩
 go_grown
theorem b2o (s X D Y : ByteArray) (w : World) (k k2 r : Nat) (n e : Int) (hs : s.size ≤ 100000) (hks : k ≤ s.size) (hk2 : (k : Int) + 1 = k2) (hk3 : k2 ≤ s.size) (hk : k < s.size) (e105 : ((s[k].toNat : Int) == 105) = true) (hr : r = 0) (he : (e != 0) = true) (hX : s.extract 0 k = X) (hY : s.extract k2 s.size = Y)
  (H16a : Hid (∀ w, Calls Tryz.prog 94 #[.string s, .func (.func 132) #[] #[]] w fun e w' => e = .returned (.int .i64 (k : Nat)) ∧ w = w'))
  (H37 : Hid (∀ w, Calls Tryz.prog 169 #[.string X] w fun e w' => e = .returned (.string D) ∧ w = w'))
  (H16b : Hid (∀ w, Calls Tryz.prog 94 #[.string Y, .func (.func 129) #[] #[]] w fun e w' => e = .returned (.int .i64 (r : Nat)) ∧ w = w'))
  (H38 : Hid (∀ w, Calls Tryz.prog 170 #[.string D] w fun x w' => x = .returned (.tuple #[.int .i64 n, .int .i64 e]) ∧ w = w')) :
  Calls Tryz.prog 133 #[.string s] w fun x w' => x = .returned (Mw 14) ∧ Below w.heap.size w w' := by
 subst hr
 go_enter Tryz.func133, Tryz.ntmps133
 go_wp2_with fail
 refine (H16a.out _).mono ?_
 rintro _ w' ⟨rfl, rfl⟩
 go_wp2_with fail
 refine (H37.out _).mono ?_
 rintro _ w' ⟨rfl, rfl⟩
 go_wp2_with fail
 refine (H16b.out _).mono ?_
 rintro _ w' ⟨rfl, rfl⟩
 go_wp2_with fail
 refine (H38.out _).mono ?_
 rintro _ w' ⟨rfl, rfl⟩
 go_wp2
 refine bodyPost_ret (v := Mw 14) (by simp [results, Tryz.results133, go_sem]) rfl ⟨rfl, ?_⟩
 go_grown
theorem b2p (s X D Y : ByteArray) (w : World) (k k2 r : Nat) (n e : Int) (hs : s.size ≤ 100000) (hks : k ≤ s.size) (hk2 : (k : Int) + 1 = k2) (hk3 : k2 ≤ s.size) (hk : k < s.size) (e105 : ((s[k].toNat : Int) == 105) = true) (hr : r = 0) (he : (e != 0) = false) (hn : 8388607 < n) (hX : s.extract 0 k = X) (hY : s.extract k2 s.size = Y)
  (H16a : Hid (∀ w, Calls Tryz.prog 94 #[.string s, .func (.func 132) #[] #[]] w fun e w' => e = .returned (.int .i64 (k : Nat)) ∧ w = w'))
  (H37 : Hid (∀ w, Calls Tryz.prog 169 #[.string X] w fun e w' => e = .returned (.string D) ∧ w = w'))
  (H16b : Hid (∀ w, Calls Tryz.prog 94 #[.string Y, .func (.func 129) #[] #[]] w fun e w' => e = .returned (.int .i64 (r : Nat)) ∧ w = w'))
  (H38 : Hid (∀ w, Calls Tryz.prog 170 #[.string D] w fun x w' => x = .returned (.tuple #[.int .i64 n, .int .i64 e]) ∧ w = w')) :
  Calls Tryz.prog 133 #[.string s] w fun x w' => x = .returned (Mw 14) ∧ Below w.heap.size w w' := by
 subst hr
 go_enter Tryz.func133, Tryz.ntmps133
 go_wp2_with fail
 refine (H16a.out _).mono ?_
 rintro _ w' ⟨rfl, rfl⟩
 go_wp2_with fail
 refine (H37.out _).mono ?_
 rintro _ w' ⟨rfl, rfl⟩
 go_wp2_with fail
 refine (H16b.out _).mono ?_
 rintro _ w' ⟨rfl, rfl⟩
 go_wp2_with fail
 refine (H38.out _).mono ?_
 rintro _ w' ⟨rfl, rfl⟩
 go_wp2
 refine bodyPost_ret (v := Mw 14) (by simp [results, Tryz.results133, go_sem]) rfl ⟨rfl, ?_⟩
 go_grown
theorem b2n (s X D Y : ByteArray) (w : World) (k k2 r : Nat) (n e : Int) (hs : s.size ≤ 100000) (hks : k ≤ s.size) (hk2 : (k : Int) + 1 = k2) (hk3 : k2 ≤ s.size) (hk : k < s.size) (e105 : ((s[k].toNat : Int) == 105) = true) (hr : r = 0) (he : (e != 0) = false) (hn : ¬ 8388607 < n) (hX : s.extract 0 k = X) (hY : s.extract k2 s.size = Y)
  (H16a : Hid (∀ w, Calls Tryz.prog 94 #[.string s, .func (.func 132) #[] #[]] w fun e w' => e = .returned (.int .i64 (k : Nat)) ∧ w = w'))
  (H37 : Hid (∀ w, Calls Tryz.prog 169 #[.string X] w fun e w' => e = .returned (.string D) ∧ w = w'))
  (H16b : Hid (∀ w, Calls Tryz.prog 94 #[.string Y, .func (.func 129) #[] #[]] w fun e w' => e = .returned (.int .i64 (r : Nat)) ∧ w = w'))
  (H38 : Hid (∀ w, Calls Tryz.prog 170 #[.string D] w fun x w' => x = .returned (.tuple #[.int .i64 n, .int .i64 e]) ∧ w = w')) :
  Calls Tryz.prog 133 #[.string s] w fun x w' => x = .returned (.tuple #[Jr 4 0 0 n { data := #[] }, .int .i64 (k2 : Nat), .int .i64 0]) ∧ Below w.heap.size w w' := by
 subst hr
 go_enter Tryz.func133, Tryz.ntmps133
 go_wp2_with fail
 refine (H16a.out _).mono ?_
 rintro _ w' ⟨rfl, rfl⟩
 go_wp2_with fail
 refine (H37.out _).mono ?_
 rintro _ w' ⟨rfl, rfl⟩
 go_wp2_with fail
 refine (H16b.out _).mono ?_
 rintro _ w' ⟨rfl, rfl⟩
 go_wp2_with fail
 refine (H38.out _).mono ?_
 rintro _ w' ⟨rfl, rfl⟩
 go_wp2
 refine bodyPost_ret (v := .tuple #[Jr 4 0 0 n { data := #[] }, .int .i64 (k2 : Nat), .int .i64 0]) (by simp [results, Tryz.results133, go_sem]) rfl ⟨rfl, ?_⟩
 go_grown
theorem b2i (s X D Y : ByteArray) (w : World) (k r : Nat) (n e : Int) (hs : s.size ≤ 100000) (hks : k ≤ s.size) (hk : k < s.size) (e105 : ((s[k].toNat : Int) == 105) = false) (hr : 0 < r) (hX : s.extract 0 k = X) (hY : s.extract k s.size = Y)
  (H16a : Hid (∀ w, Calls Tryz.prog 94 #[.string s, .func (.func 132) #[] #[]] w fun e w' => e = .returned (.int .i64 (k : Nat)) ∧ w = w'))
  (H37 : Hid (∀ w, Calls Tryz.prog 169 #[.string X] w fun e w' => e = .returned (.string D) ∧ w = w'))
  (H16b : Hid (∀ w, Calls Tryz.prog 94 #[.string Y, .func (.func 129) #[] #[]] w fun e w' => e = .returned (.int .i64 (r : Nat)) ∧ w = w'))
  (H38 : Hid (∀ w, Calls Tryz.prog 170 #[.string D] w fun x w' => x = .returned (.tuple #[.int .i64 n, .int .i64 e]) ∧ w = w')) :
  Calls Tryz.prog 133 #[.string s] w fun x w' => x = .returned (Mw 4) ∧ Below w.heap.size w w' := by
 have hr2 : (0 : Int) < r := by omega
 go_enter Tryz.func133, Tryz.ntmps133
 go_wp2_with fail
 refine (H16a.out _).mono ?_
 rintro _ w' ⟨rfl, rfl⟩
 go_wp2_with fail
 refine (H37.out _).mono ?_
 rintro _ w' ⟨rfl, rfl⟩
 go_wp2_with fail
 refine (H16b.out _).mono ?_
 rintro _ w' ⟨rfl, rfl⟩
 go_wp2
 refine bodyPost_ret (v := Mw 4) (by simp [results, Tryz.results133, go_sem]) rfl ⟨rfl, ?_⟩
 go_grown
theorem b2g (s X D Y : ByteArray) (w : World) (k r : Nat) (n e : Int) (hs : s.size ≤ 100000) (hks : k ≤ s.size) (hk : k < s.size) (e105 : ((s[k].toNat : Int) == 105) = false) (hr : r = 0) (he : (e != 0) = true) (hX : s.extract 0 k = X) (hY : s.extract k s.size = Y)
  (H16a : Hid (∀ w, Calls Tryz.prog 94 #[.string s, .func (.func 132) #[] #[]] w fun e w' => e = .returned (.int .i64 (k : Nat)) ∧ w = w'))
  (H37 : Hid (∀ w, Calls Tryz.prog 169 #[.string X] w fun e w' => e = .returned (.string D) ∧ w = w'))
  (H16b : Hid (∀ w, Calls Tryz.prog 94 #[.string Y, .func (.func 129) #[] #[]] w fun e w' => e = .returned (.int .i64 (r : Nat)) ∧ w = w'))
  (H38 : Hid (∀ w, Calls Tryz.prog 170 #[.string D] w fun x w' => x = .returned (.tuple #[.int .i64 n, .int .i64 e]) ∧ w = w')) :
  Calls Tryz.prog 133 #[.string s] w fun x w' => x = .returned (Mw 14) ∧ Below w.heap.size w w' := by
 subst hr
 go_enter Tryz.func133, Tryz.ntmps133
 go_wp2_with fail
 refine (H16a.out _).mono ?_
 rintro _ w' ⟨rfl, rfl⟩
 go_wp2_with fail
 refine (H37.out _).mono ?_
 rintro _ w' ⟨rfl, rfl⟩
 go_wp2_with fail
 refine (H16b.out _).mono ?_
 rintro _ w' ⟨rfl, rfl⟩
 go_wp2_with fail
 refine (H38.out _).mono ?_
 rintro _ w' ⟨rfl, rfl⟩
 go_wp2
 refine bodyPost_ret (v := Mw 14) (by simp [results, Tryz.results133, go_sem]) rfl ⟨rfl, ?_⟩
 go_grown
theorem b2h (s X D Y : ByteArray) (w : World) (k r : Nat) (n e : Int) (hs : s.size ≤ 100000) (hks : k ≤ s.size) (hk : k < s.size) (e105 : ((s[k].toNat : Int) == 105) = false) (hr : r = 0) (he : (e != 0) = false) (hn : 9223372036854775807 < n) (hX : s.extract 0 k = X) (hY : s.extract k s.size = Y)
  (H16a : Hid (∀ w, Calls Tryz.prog 94 #[.string s, .func (.func 132) #[] #[]] w fun e w' => e = .returned (.int .i64 (k : Nat)) ∧ w = w'))
  (H37 : Hid (∀ w, Calls Tryz.prog 169 #[.string X] w fun e w' => e = .returned (.string D) ∧ w = w'))
  (H16b : Hid (∀ w, Calls Tryz.prog 94 #[.string Y, .func (.func 129) #[] #[]] w fun e w' => e = .returned (.int .i64 (r : Nat)) ∧ w = w'))
  (H38 : Hid (∀ w, Calls Tryz.prog 170 #[.string D] w fun x w' => x = .returned (.tuple #[.int .i64 n, .int .i64 e]) ∧ w = w')) :
  Calls Tryz.prog 133 #[.string s] w fun x w' => x = .returned (Mw 14) ∧ Below w.heap.size w w' := by
 subst hr
 go_enter Tryz.func133, Tryz.ntmps133
 go_wp2_with fail
 refine (H16a.out _).mono ?_
 rintro _ w' ⟨rfl, rfl⟩
 go_wp2_with fail
 refine (H37.out _).mono ?_
 rintro _ w' ⟨rfl, rfl⟩
 go_wp2_with fail
 refine (H16b.out _).mono ?_
 rintro _ w' ⟨rfl, rfl⟩
 go_wp2_with fail
 refine (H38.out _).mono ?_
 rintro _ w' ⟨rfl, rfl⟩
 go_wp2
 refine bodyPost_ret (v := Mw 14) (by simp [results, Tryz.results133, go_sem]) rfl ⟨rfl, ?_⟩
 go_grown
theorem b2f (s X D Y : ByteArray) (w : World) (k r : Nat) (n e : Int) (hs : s.size ≤ 100000) (hks : k ≤ s.size) (hk : k < s.size) (e105 : ((s[k].toNat : Int) == 105) = false) (hr : r = 0) (he : (e != 0) = false) (hn : ¬ 9223372036854775807 < n) (hX : s.extract 0 k = X) (hY : s.extract k s.size = Y)
  (H16a : Hid (∀ w, Calls Tryz.prog 94 #[.string s, .func (.func 132) #[] #[]] w fun e w' => e = .returned (.int .i64 (k : Nat)) ∧ w = w'))
  (H37 : Hid (∀ w, Calls Tryz.prog 169 #[.string X] w fun e w' => e = .returned (.string D) ∧ w = w'))
  (H16b : Hid (∀ w, Calls Tryz.prog 94 #[.string Y, .func (.func 129) #[] #[]] w fun e w' => e = .returned (.int .i64 (r : Nat)) ∧ w = w'))
  (H38 : Hid (∀ w, Calls Tryz.prog 170 #[.string D] w fun x w' => x = .returned (.tuple #[.int .i64 n, .int .i64 e]) ∧ w = w')) :
  Calls Tryz.prog 133 #[.string s] w fun x w' => x = .returned (.tuple #[Jr 3 0 0 n { data := #[] }, .int .i64 (k : Nat), .int .i64 0]) ∧ Below w.heap.size w w' := by
 subst hr
 go_enter Tryz.func133, Tryz.ntmps133
 go_wp2_with fail
 refine (H16a.out _).mono ?_
 rintro _ w' ⟨rfl, rfl⟩
 go_wp2_with fail
 refine (H37.out _).mono ?_
 rintro _ w' ⟨rfl, rfl⟩
 go_wp2_with fail
 refine (H16b.out _).mono ?_
 rintro _ w' ⟨rfl, rfl⟩
 go_wp2_with fail
 refine (H38.out _).mono ?_
 rintro _ w' ⟨rfl, rfl⟩
 go_wp2
 refine bodyPost_ret (v := .tuple #[Jr 3 0 0 n { data := #[] }, .int .i64 (k : Nat), .int .i64 0]) (by simp [results, Tryz.results133, go_sem]) rfl ⟨rfl, ?_⟩
 go_grown
theorem b2m (s X D Y : ByteArray) (w : World) (k r : Nat) (n e : Int) (hs : s.size ≤ 100000) (hks : k ≤ s.size) (hk : ¬ (k : Int) < s.size) (hr : 0 < r) (hX : s.extract 0 k = X) (hY : s.extract k s.size = Y)
  (H16a : Hid (∀ w, Calls Tryz.prog 94 #[.string s, .func (.func 132) #[] #[]] w fun e w' => e = .returned (.int .i64 (k : Nat)) ∧ w = w'))
  (H37 : Hid (∀ w, Calls Tryz.prog 169 #[.string X] w fun e w' => e = .returned (.string D) ∧ w = w'))
  (H16b : Hid (∀ w, Calls Tryz.prog 94 #[.string Y, .func (.func 129) #[] #[]] w fun e w' => e = .returned (.int .i64 (r : Nat)) ∧ w = w'))
  (H38 : Hid (∀ w, Calls Tryz.prog 170 #[.string D] w fun x w' => x = .returned (.tuple #[.int .i64 n, .int .i64 e]) ∧ w = w')) :
  Calls Tryz.prog 133 #[.string s] w fun x w' => x = .returned (Mw 4) ∧ Below w.heap.size w w' := by
 have hr2 : (0 : Int) < r := by omega
 go_enter Tryz.func133, Tryz.ntmps133
 go_wp2_with fail
 refine (H16a.out _).mono ?_
 rintro _ w' ⟨rfl, rfl⟩
 go_wp2_with fail
 refine (H37.out _).mono ?_
 rintro _ w' ⟨rfl, rfl⟩
 go_wp2_with fail
 refine (H16b.out _).mono ?_
 rintro _ w' ⟨rfl, rfl⟩
 go_wp2
 refine bodyPost_ret (v := Mw 4) (by simp [results, Tryz.results133, go_sem]) rfl ⟨rfl, ?_⟩
 go_grown
theorem b2k (s X D Y : ByteArray) (w : World) (k r : Nat) (n e : Int) (hs : s.size ≤ 100000) (hks : k ≤ s.size) (hk : ¬ (k : Int) < s.size) (hr : r = 0) (he : (e != 0) = true) (hX : s.extract 0 k = X) (hY : s.extract k s.size = Y)
  (H16a : Hid (∀ w, Calls Tryz.prog 94 #[.string s, .func (.func 132) #[] #[]] w fun e w' => e = .returned (.int .i64 (k : Nat)) ∧ w = w'))
  (H37 : Hid (∀ w, Calls Tryz.prog 169 #[.string X] w fun e w' => e = .returned (.string D) ∧ w = w'))
  (H16b : Hid (∀ w, Calls Tryz.prog 94 #[.string Y, .func (.func 129) #[] #[]] w fun e w' => e = .returned (.int .i64 (r : Nat)) ∧ w = w'))
  (H38 : Hid (∀ w, Calls Tryz.prog 170 #[.string D] w fun x w' => x = .returned (.tuple #[.int .i64 n, .int .i64 e]) ∧ w = w')) :
  Calls Tryz.prog 133 #[.string s] w fun x w' => x = .returned (Mw 14) ∧ Below w.heap.size w w' := by
 subst hr
 go_enter Tryz.func133, Tryz.ntmps133
 go_wp2_with fail
 refine (H16a.out _).mono ?_
 rintro _ w' ⟨rfl, rfl⟩
 go_wp2_with fail
 refine (H37.out _).mono ?_
 rintro _ w' ⟨rfl, rfl⟩
 go_wp2_with fail
 refine (H16b.out _).mono ?_
 rintro _ w' ⟨rfl, rfl⟩
 go_wp2_with fail
 refine (H38.out _).mono ?_
 rintro _ w' ⟨rfl, rfl⟩
 go_wp2
 refine bodyPost_ret (v := Mw 14) (by simp [results, Tryz.results133, go_sem]) rfl ⟨rfl, ?_⟩
 go_grown
theorem b2l (s X D Y : ByteArray) (w : World) (k r : Nat) (n e : Int) (hs : s.size ≤ 100000) (hks : k ≤ s.size) (hk : ¬ (k : Int) < s.size) (hr : r = 0) (he : (e != 0) = false) (hn : 9223372036854775807 < n) (hX : s.extract 0 k = X) (hY : s.extract k s.size = Y)
  (H16a : Hid (∀ w, Calls Tryz.prog 94 #[.string s, .func (.func 132) #[] #[]] w fun e w' => e = .returned (.int .i64 (k : Nat)) ∧ w = w'))
  (H37 : Hid (∀ w, Calls Tryz.prog 169 #[.string X] w fun e w' => e = .returned (.string D) ∧ w = w'))
  (H16b : Hid (∀ w, Calls Tryz.prog 94 #[.string Y, .func (.func 129) #[] #[]] w fun e w' => e = .returned (.int .i64 (r : Nat)) ∧ w = w'))
  (H38 : Hid (∀ w, Calls Tryz.prog 170 #[.string D] w fun x w' => x = .returned (.tuple #[.int .i64 n, .int .i64 e]) ∧ w = w')) :
  Calls Tryz.prog 133 #[.string s] w fun x w' => x = .returned (Mw 14) ∧ Below w.heap.size w w' := by
 subst hr
 go_enter Tryz.func133, Tryz.ntmps133
 go_wp2_with fail
 refine (H16a.out _).mono ?_
 rintro _ w' ⟨rfl, rfl⟩
 go_wp2_with fail
 refine (H37.out _).mono ?_
 rintro _ w' ⟨rfl, rfl⟩
 go_wp2_with fail
 refine (H16b.out _).mono ?_
 rintro _ w' ⟨rfl, rfl⟩
 go_wp2_with fail
 refine (H38.out _).mono ?_
 rintro _ w' ⟨rfl, rfl⟩
 go_wp2
 refine bodyPost_ret (v := Mw 14) (by simp [results, Tryz.results133, go_sem]) rfl ⟨rfl, ?_⟩
 go_grown
theorem b2j (s X D Y : ByteArray) (w : World) (k r : Nat) (n e : Int) (hs : s.size ≤ 100000) (hks : k ≤ s.size) (hk : ¬ (k : Int) < s.size) (hr : r = 0) (he : (e != 0) = false) (hn : ¬ 9223372036854775807 < n) (hX : s.extract 0 k = X) (hY : s.extract k s.size = Y)
  (H16a : Hid (∀ w, Calls Tryz.prog 94 #[.string s, .func (.func 132) #[] #[]] w fun e w' => e = .returned (.int .i64 (k : Nat)) ∧ w = w'))
  (H37 : Hid (∀ w, Calls Tryz.prog 169 #[.string X] w fun e w' => e = .returned (.string D) ∧ w = w'))
  (H16b : Hid (∀ w, Calls Tryz.prog 94 #[.string Y, .func (.func 129) #[] #[]] w fun e w' => e = .returned (.int .i64 (r : Nat)) ∧ w = w'))
  (H38 : Hid (∀ w, Calls Tryz.prog 170 #[.string D] w fun x w' => x = .returned (.tuple #[.int .i64 n, .int .i64 e]) ∧ w = w')) :
  Calls Tryz.prog 133 #[.string s] w fun x w' => x = .returned (.tuple #[Jr 3 0 0 n { data := #[] }, .int .i64 (k : Nat), .int .i64 0]) ∧ Below w.heap.size w w' := by
 subst hr
 go_enter Tryz.func133, Tryz.ntmps133
 go_wp2_with fail
 refine (H16a.out _).mono ?_
 rintro _ w' ⟨rfl, rfl⟩
 go_wp2_with fail
 refine (H37.out _).mono ?_
 rintro _ w' ⟨rfl, rfl⟩
 go_wp2_with fail
 refine (H16b.out _).mono ?_
 rintro _ w' ⟨rfl, rfl⟩
 go_wp2_with fail
 refine (H38.out _).mono ?_
 rintro _ w' ⟨rfl, rfl⟩
 go_wp2
 refine bodyPost_ret (v := .tuple #[Jr 3 0 0 n { data := #[] }, .int .i64 (k : Nat), .int .i64 0]) (by simp [results, Tryz.results133, go_sem]) rfl ⟨rfl, ?_⟩
 go_grown
end
end Go.Proofs.YtoaplbljflhheaaGreat
namespace Go.Proofs.YtoaplbljflhheaaGreat
section
open Go.RowKit
theorem Hy (s : ByteArray) (k : Nat) : (s.extract 0 k).data.toList = s.data.toList.take k := by rw [Hz]; simp
theorem Dq (s : ByteArray) (k : Nat) (h : k ≤ s.size) : (s.extract 0 k).size = k := by rw [← Af, Hy, List.length_take, Af]; omega
theorem Vr (s : ByteArray) (w : World) (hs : s.size ≤ 100000) (h0 : 0 < s.size) (hd : dgt s[0] = true) :
  Calls Tryz.prog 133 #[.string s] w fun x w' => x = .returned (b0t (Ke s.data.toList)) ∧ Below w.heap.size w w' := by
 have hl : s.data.toList ≠ [] := fun e => by have := Af s; rw [e] at this; simp at this; omega
 obtain ⟨k, hk⟩ : ∃ k, Cb dgt s.data.toList = k := ⟨_, rfl⟩
 have hk1 : 1 ≤ k := by rw [← hk]; exact I2 (by rw [Ck s h0]; exact hd) hl
 have hks : k ≤ s.size := by rw [← hk, ← Af]; exact Ij _ _
 obtain ⟨X, hX⟩ : ∃ X, s.extract 0 k = X := ⟨_, rfl⟩
 have hXl : X.data.toList = s.data.toList.take k := by rw [← hX, Hy]
 have hXs : X.size = k := by rw [← hX, Dq s k hks]
 have hND : Rw s.data.toList = a52 X.data.toList := by rw [Rw, hk, hXl]
 obtain ⟨D, hD⟩ : ∃ D, bs (a52 X.data.toList) = D := ⟨_, rfl⟩
 have hDl : D.data.toList = Rw s.data.toList := by rw [← hD, D4, hND]
 have hDs : D.size ≤ 100000 := by
  rw [← Af, hDl, hND, a52, List.length_drop, Af]; omega
 have H16a := zz (fun w => Vi s (by omega) k hk w)
 have H37 := zz (fun w => a14 X w (by omega) (by omega) D (zz hD))
 have H38 := zz (fun w => Nm.parse_any D w hDs)
 rw [hDl] at H38
 obtain ⟨k2, hk2⟩ : ∃ k2, Wj s.data.toList = k2 := ⟨_, rfl⟩
 obtain ⟨Y, hY⟩ : ∃ Y, s.extract k2 s.size = Y := ⟨_, rfl⟩
 have hYl : Y.data.toList = s.data.toList.drop k2 := by rw [← hY, Fi]
 obtain ⟨r, hr⟩ : ∃ r, Cb nam (s.data.toList.drop k2) = r := ⟨_, rfl⟩
 have hYs : Y.size ≤ 1000000 := by rw [← Af, hYl, List.length_drop, Af]; omega
 have H16b := zz (fun w => M9 Y hYs r (by rw [hYl]; exact hr) w)
 obtain ⟨e, he⟩ : ∃ e, Nm.parseE (Rw s.data.toList) = e := ⟨_, rfl⟩
 obtain ⟨n, hn⟩ : ∃ n, Nm.parseN (Rw s.data.toList) = n := ⟨_, rfl⟩
 rw [he, hn] at H38
 unfold Ke
 rw [hk2, hr, he, hn]
 have b1 : ¬ e = 0 → (e != 0) = true := fun h => by simpa using h
 have b2 : e = 0 → (e != 0) = false := fun h => by simpa using h
 cases hc : isC s.data.toList with
 | true =>
  have hkk : k2 = k + 1 := by rw [← hk2, Wj, if_pos hc, hk]
  have hk3 : k < s.size ∧ (s.data.toList.drop k).head? = some 105 := by
   unfold isC at hc
   rw [decide_eq_true_eq, hk] at hc
   refine ⟨?_, hc⟩
   by_cases hlt : k < s.size
   ·exact hlt
   ·rw [Dr s k (by omega)] at hc; simp at hc
  have hb : s[k]'hk3.1 = 105 := by have := hk3.2; rw [F7 s k hk3.1] at this; simpa using this
  have e105 : (((s[k]'hk3.1).toNat : Int) == 105) = true := by rw [hb]; rfl
  have hM : Zb s.data.toList = 8388607 := by rw [Zb, if_pos hc]
  rw [hM, if_pos rfl]
  by_cases hr0 : 0 < r
  ·rw [if_pos hr0]
   exact b2q s X D Y w k k2 r n e hs hks (by omega) (by omega) hk3.1 e105 hr0 hX hY H16a H37 H16b H38
  ·rw [if_neg hr0]
   by_cases he0 : e = 0
   ·by_cases hno : 8388607 < n
    ·rw [if_pos (.inr hno)]
     exact b2p s X D Y w k k2 r n e hs hks (by omega) (by omega) hk3.1 e105 (by omega) (b2 he0) hno hX hY H16a H37 H16b H38
    ·rw [if_neg (fun h => h.elim (fun h => h he0) hno)]
     exact b2n s X D Y w k k2 r n e hs hks (by omega) (by omega) hk3.1 e105 (by omega) (b2 he0) hno hX hY H16a H37 H16b H38
   ·rw [if_pos (.inl he0)]
    exact b2o s X D Y w k k2 r n e hs hks (by omega) (by omega) hk3.1 e105 (by omega) (b1 he0) hX hY H16a H37 H16b H38
 | false =>
  have hkk : k2 = k := by rw [← hk2, Wj, hc, hk]; rfl
  subst hkk
  have hM : Zb s.data.toList = 9223372036854775807 := by rw [Zb, hc]; rfl
  rw [hM, if_neg (show ¬ (false = true) by simp)]
  unfold isC at hc
  rw [decide_eq_false_iff_not, hk] at hc
  by_cases hlt : k2 < s.size
  ·have hb : s[k2] ≠ 105 := fun h => hc (by rw [F7 s k2 hlt, h])
   have e105 : ((s[k2].toNat : Int) == 105) = false := Ac (n := 105) (by decide) hb
   by_cases hr0 : 0 < r
   ·rw [if_pos hr0]
    exact b2i s X D Y w k2 r n e hs hks hlt e105 hr0 hX hY H16a H37 H16b H38
   ·rw [if_neg hr0]
    by_cases he0 : e = 0
    ·by_cases hno : 9223372036854775807 < n
     ·rw [if_pos (.inr hno)]
      exact b2h s X D Y w k2 r n e hs hks hlt e105 (by omega) (b2 he0) hno hX hY H16a H37 H16b H38
     ·rw [if_neg (fun h => h.elim (fun h => h he0) hno)]
      exact b2f s X D Y w k2 r n e hs hks hlt e105 (by omega) (b2 he0) hno hX hY H16a H37 H16b H38
    ·rw [if_pos (.inl he0)]
     exact b2g s X D Y w k2 r n e hs hks hlt e105 (by omega) (b1 he0) hX hY H16a H37 H16b H38
  ·by_cases hr0 : 0 < r
   ·rw [if_pos hr0]
    exact b2m s X D Y w k2 r n e hs hks (by omega) hr0 hX hY H16a H37 H16b H38
   ·rw [if_neg hr0]
    by_cases he0 : e = 0
    ·by_cases hno : 9223372036854775807 < n
     ·rw [if_pos (.inr hno)]
      exact b2l s X D Y w k2 r n e hs hks (by omega) (by omega) (b2 he0) hno hX hY H16a H37 H16b H38
     ·rw [if_neg (fun h => h.elim (fun h => h he0) hno)]
      exact b2j s X D Y w k2 r n e hs hks (by omega) (by omega) (b2 he0) hno hX hY H16a H37 H16b H38
    ·rw [if_pos (.inl he0)]
     exact b2k s X D Y w k2 r n e hs hks (by omega) (by omega) (b1 he0) hX hY H16a H37 H16b H38
theorem b3b (s : ByteArray) (w : World) (N : Nat) (HE : Hid (∀ w, Calls Tryz.prog 171 #[.string s] w fun e w' => e = .returned (.tuple #[.int .i64 (N : Nat), .bool false]) ∧ w = w')) :
  Calls Tryz.prog 134 #[.string s] w fun e w' => e = .returned (Mw 4) ∧ Below w.heap.size w w' := by
 go_enter Tryz.func134, Tryz.ntmps134
 go_wp2_with fail
 refine (HE.out _).mono ?_
 rintro _ w' ⟨rfl, rfl⟩
 go_wp2
 refine bodyPost_ret (v := Mw 4) (by simp [results, Tryz.results134, go_sem]) rfl ⟨rfl, ?_⟩
 go_grown
theorem a83 (s X T : ByteArray) (w : World) (N : Nat) (hN : N ≤ s.size) (hX : s.extract 0 N = X) (HE : Hid (∀ w, Calls Tryz.prog 171 #[.string s] w fun e w' => e = .returned (.tuple #[.int .i64 (N : Nat), .bool true]) ∧ w = w'))
  (HU : Hid (∀ w, Calls Tryz.prog 172 #[.string X] w fun e w' => e = .returned (.tuple #[.string T, .int .i64 0]) ∧ Below w.heap.size w w')) :
  Calls Tryz.prog 134 #[.string s] w fun e w' => e = .returned (.tuple #[Jr 5 0 0 0 T, .int .i64 (N : Nat), .int .i64 0]) ∧ Below w.heap.size w w' := by
 go_enter Tryz.func134, Tryz.ntmps134
 go_wp2_with fail
 refine (HE.out _).mono ?_
 rintro _ w' ⟨rfl, rfl⟩
 go_wp2_with fail
 refine (HU.out _).mono ?_
 rintro _ w1 ⟨rfl, hb⟩
 obtain ⟨hc, hf⟩ := Df hb
 have hz := hb.size
 simp only [World.size_alloc] at hc hf hz
 go_wp2
 refine bodyPost_ret (v := .tuple #[Jr 5 0 0 0 T, .int .i64 (N : Nat), .int .i64 0]) (by simp [results, Tryz.results134, go_sem, hc]) rfl ⟨rfl, ?_⟩
 have hb' := (by go_grown : Below w.heap.size w _).trans (hb.mono (by simp))
 go_grown
theorem Jv (t : List UInt8) : A5 (34 :: t) = ((C8 t).1, 1 + (C8 t).2.1, (C8 t).2.2) := by rw [A5]; exact if_pos rfl
theorem Pp (l : List UInt8) (h : (A5 l).2.2 = true) : ∃ t, l = 34 :: t := by
 unfold A5 at h
 split at h
 ·rename_i hq
  cases l with
  | nil => simp at hq
  | cons c t => simp at hq; exact ⟨t, by rw [hq]⟩
 ·simp at h
theorem X5 : ∀ n (m : List UInt8), m.length ≤ n → (C8 m).2.2 = true → ∀ x, C8 (m.take (C8 m).2.1 ++ x) = C8 m := by
 intro n
 induction n with
 | zero =>
  intro m hm h
  obtain rfl : m = [] := List.eq_nil_of_length_eq_zero (by omega)
  simp [C8, rb] at h
 | succ n ih =>
  intro m hm h x
  by_cases hq : m.head? = some 34
  ·rw [Eh m hq]
   cases m with
   | nil => simp at hq
   | cons c t => exact Eh _ (by simpa using hq)
  ·by_cases hb : (rb m).2.2 = true
   ·have hs := Ft m hq hb
    have hz := Ik m hb
    rw [hs] at h
    have hi := ih (m.drop (rb m).2.1) (by simp; omega) h x
    have hg0 : rb (m.take (C8 m).2.1) = rb m := S6 m hb _ (by rw [hs]; simp)
    have hg : rb (m.take (C8 m).2.1 ++ x) = rb m := by rw [a58 _ _ (by rw [hg0]; exact hb), hg0]
    have hle : (rb m).2.1 ≤ (m.take (C8 m).2.1).length := by rw [List.length_take, hs]; simp; omega
    have hq2 : ¬ (m.take (C8 m).2.1 ++ x).head? = some 34 := by
     cases m with
     | nil => simp at hz; omega
     | cons c t =>
      have h1 : (C8 (c :: t)).2.1 = ((C8 (c :: t)).2.1 - 1) + 1 := by rw [hs]; simp; omega
      rw [h1, List.take_succ_cons]
      simpa using hq
    rw [Ft _ hq2 (by rw [hg]; exact hb), hg]
    have hd : (m.take (C8 m).2.1 ++ x).drop (rb m).2.1 = (m.drop (rb m).2.1).take (C8 (m.drop (rb m).2.1)).2.1 ++ x := by
     rw [List.drop_append_of_le_length hle, List.drop_take]; congr 2; rw [hs]; simp
    rw [hd, hi, ← hs]
   ·rw [Hs m hq (by simpa using hb)] at h
    simp at h
theorem N5 (l : List UInt8) (h : (A5 l).2.2 = true) (x : List UInt8) : A5 (l.take (A5 l).2.1 ++ x) = A5 l := by
 obtain ⟨t, rfl⟩ := Pp l h
 rw [Jv] at h ⊢
 have := X5 _ t (Nat.le_refl _) h x
 show A5 ((34 :: t).take (1 + (C8 t).2.1) ++ x) = _
 rw [show 1 + (C8 t).2.1 = (C8 t).2.1 + 1 by omega, List.take_succ_cons, List.cons_append, Jv, this]
 simp; omega
theorem Yl (l : List UInt8) (h : (A5 l).2.2 = true) : A5 (l.take (A5 l).2.1) = A5 l := by
 have := N5 l h []
 rwa [List.append_nil] at this
theorem R4 (s : ByteArray) (w : World) (hs : s.size ≤ 100000) :
  Calls Tryz.prog 134 #[.string s] w fun x w' => x = .returned (b0t (L3 s.data.toList)) ∧ Below w.heap.size w w' := by
 have HE := fun w => a0u s w (by omega) _ rfl
 unfold L3
 cases hok : (A5 s.data.toList).2.2 with
 | false =>
  rw [hok] at HE
  rw [if_neg (by simp)]
  exact b3b s w _ (zz HE)
 | true =>
  rw [hok] at HE
  rw [if_pos rfl]
  obtain ⟨h1, h2, h3⟩ := Nu s.data.toList hok
  rw [Af] at h2
  have ht := Yl s.data.toList hok
  have HU := fun w => Q3 (s.extract 0 (A5 s.data.toList).2.1) w (by rw [Dq s _ h2]; omega)
  have hu : W0 (s.extract 0 (A5 s.data.toList).2.1).data.toList = ((A5 s.data.toList).1, 0) := by
   rw [Hy, W0, ht]
   exact if_pos ⟨hok, by rw [List.length_take, Af]; omega⟩
  rw [hu] at HU
  exact a83 s _ _ w _ h2 rfl (zz HE) (zz HU)
end
end Go.Proofs.YtoaplbljflhheaaGreat
namespace Go.Proofs.YtoaplbljflhheaaGreat
section
open Go.RowKit Go.Sort
abbrev G0 (f : Nat) (c : UInt8) (b : Bool) : Prop := ∀ w, Calls Tryz.prog f #[byt c] w fun e w' => e = .returned (.bool b) ∧ w = w'
theorem Ul (s X : ByteArray) (w : World) (h0 : 0 < s.size) (hs : s.size ≤ 100000) (n k : Nat) (hn : n ≤ s.size) (hX : s.extract 0 n = X)
  (H25 : Hid (G0 127 s[0] true))
  (H16 : Hid (∀ w, Calls Tryz.prog 94 #[.string s, .func (.func 129) #[] #[]] w fun e w' => e = .returned (.int .i64 (n : Nat)) ∧ w = w'))
  (H29 : Hid (∀ w, Calls Tryz.prog 131 #[.string X] w fun e w' => e = .returned (.int .u8 (k : Nat)) ∧ w = w'))
  (H28 : Hid (∀ w, Calls Tryz.prog 130 #[.int .u8 (k : Nat), .string X] w fun e w' => e = .returned (Jr k 0 0 0 X) ∧ Below w.heap.size w w')) :
  Calls Tryz.prog 96 #[.string s] w fun x w' => x = .returned (.tuple #[Jr k 0 0 0 X, .int .i64 (n : Nat), .int .i64 0]) ∧ Below w.heap.size w w' := by
 have hne := Ff s h0
 go_enter Tryz.func96, Tryz.ntmps96
 go_wp2_with fail
 refine (H25.out _).mono ?_
 rintro e w' ⟨rfl, rfl⟩
 go_wp2_with fail
 refine (H16.out _).mono ?_
 rintro e w' ⟨rfl, rfl⟩
 go_wp2_with fail
 go_region_with (first
  | (go_at_call 131; refine (H29.out _).mono ?_; rintro e w' ⟨rfl, rfl⟩)
  | (go_at_call 130; refine (H28.out _).mono ?_; rintro e w1 ⟨rfl, hb⟩; obtain ⟨hc, hf⟩ := Df hb; have hz := hb.size; simp only [World.size_alloc, World.size_drew] at hc hf hz))
 go_wp2
 refine bodyPost_ret (v := .tuple #[Jr k 0 0 0 X, .int .i64 (n : Nat), .int .i64 0]) (by simp [results, Tryz.results96, go_sem, hc]) rfl ⟨rfl, ?_⟩
 have hb' := (by go_grown : Below w.heap.size w _).trans (hb.mono (by simp))
 go_grown
theorem Um (s X : ByteArray) (w : World) (h0 : 0 < s.size) (hs : s.size ≤ 100000) (n k : Nat) (hn : n ≤ s.size) (hX : s.extract 0 n = X)
  (H25 : Hid (G0 127 s[0] false)) (H26 : Hid (G0 128 s[0] true))
  (H16 : Hid (∀ w, Calls Tryz.prog 94 #[.string s, .func (.func 129) #[] #[]] w fun e w' => e = .returned (.int .i64 (n : Nat)) ∧ w = w'))
  (H29 : Hid (∀ w, Calls Tryz.prog 131 #[.string X] w fun e w' => e = .returned (.int .u8 (k : Nat)) ∧ w = w'))
  (H28 : Hid (∀ w, Calls Tryz.prog 130 #[.int .u8 (k : Nat), .string X] w fun e w' => e = .returned (Jr k 0 0 0 X) ∧ Below w.heap.size w w')) :
  Calls Tryz.prog 96 #[.string s] w fun x w' => x = .returned (.tuple #[Jr k 0 0 0 X, .int .i64 (n : Nat), .int .i64 0]) ∧ Below w.heap.size w w' := by
 have hne := Ff s h0
 go_enter Tryz.func96, Tryz.ntmps96
 go_wp2_with fail
 refine (H25.out _).mono ?_
 rintro e w' ⟨rfl, rfl⟩
 go_wp2_with fail
 refine (H26.out _).mono ?_
 rintro e w' ⟨rfl, rfl⟩
 go_wp2_with fail
 refine (H16.out _).mono ?_
 rintro e w' ⟨rfl, rfl⟩
 go_wp2_with fail
 go_region_with (first
  | (go_at_call 131; refine (H29.out _).mono ?_; rintro e w' ⟨rfl, rfl⟩)
  | (go_at_call 130; refine (H28.out _).mono ?_; rintro e w1 ⟨rfl, hb⟩; obtain ⟨hc, hf⟩ := Df hb; have hz := hb.size; simp only [World.size_alloc, World.size_drew] at hc hf hz))
 go_wp2
 refine bodyPost_ret (v := .tuple #[Jr k 0 0 0 X, .int .i64 (n : Nat), .int .i64 0]) (by simp [results, Tryz.results96, go_sem, hc]) rfl ⟨rfl, ?_⟩
 have hb' := (by go_grown : Below w.heap.size w _).trans (hb.mono (by simp))
 go_grown
theorem Uk (s T : ByteArray) (w : World) (h0 : 0 < s.size) (k n : Nat) (m e : Int)
  (H25 : Hid (G0 127 s[0] false)) (H26 : Hid (G0 128 s[0] false)) (H30 : Hid (G0 132 s[0] true))
  (H : Hid (∀ w, Calls Tryz.prog 133 #[.string s] w fun x w' => x = .returned (.tuple #[Jr k 0 0 m T, .int .i64 (n : Nat), .int .i64 e]) ∧ Below w.heap.size w w')) :
  Calls Tryz.prog 96 #[.string s] w fun x w' => x = .returned (.tuple #[Jr k 0 0 m T, .int .i64 (n : Nat), .int .i64 e]) ∧ Below w.heap.size w w' := by
 have hne := Ff s h0
 go_enter Tryz.func96, Tryz.ntmps96
 go_wp2_with fail
 refine (H25.out _).mono ?_
 rintro e w' ⟨rfl, rfl⟩
 go_wp2_with fail
 refine (H26.out _).mono ?_
 rintro e w' ⟨rfl, rfl⟩
 go_wp2_with fail
 refine (H30.out _).mono ?_
 rintro e w' ⟨rfl, rfl⟩
 go_wp2_with fail
 refine (H.out _).mono ?_
 rintro _ w1 ⟨rfl, hb⟩
 obtain ⟨hc, hf⟩ := Df hb
 have hz := hb.size
 simp only [World.size_alloc] at hc hf hz
 go_wp2
 refine bodyPost_ret (v := .tuple #[Jr k 0 0 m T, .int .i64 (n : Nat), .int .i64 e]) (by simp [results, Tryz.results96, go_sem, hc]) rfl ⟨rfl, ?_⟩
 have hb' := (by go_grown : Below w.heap.size w _).trans (hb.mono (by simp))
 go_grown
theorem Q9 (s T : ByteArray) (w : World) (h0 : 0 < s.size) (k n : Nat) (m e : Int)
  (e34 : ((s[0].toNat : Int) == 34) = true) (H25 : Hid (G0 127 s[0] false)) (H26 : Hid (G0 128 s[0] false)) (H30 : Hid (G0 132 s[0] false))
  (H : Hid (∀ w, Calls Tryz.prog 134 #[.string s] w fun x w' => x = .returned (.tuple #[Jr k 0 0 m T, .int .i64 (n : Nat), .int .i64 e]) ∧ Below w.heap.size w w')) :
  Calls Tryz.prog 96 #[.string s] w fun x w' => x = .returned (.tuple #[Jr k 0 0 m T, .int .i64 (n : Nat), .int .i64 e]) ∧ Below w.heap.size w w' := by
 have hne := Ff s h0
 go_enter Tryz.func96, Tryz.ntmps96
 go_wp2_with fail
 refine (H25.out _).mono ?_
 rintro e w' ⟨rfl, rfl⟩
 go_wp2_with fail
 refine (H26.out _).mono ?_
 rintro e w' ⟨rfl, rfl⟩
 go_wp2_with fail
 refine (H30.out _).mono ?_
 rintro e w' ⟨rfl, rfl⟩
 go_wp2_with fail
 refine (H.out _).mono ?_
 rintro _ w1 ⟨rfl, hb⟩
 obtain ⟨hc, hf⟩ := Df hb
 have hz := hb.size
 simp only [World.size_alloc] at hc hf hz
 go_wp2
 refine bodyPost_ret (v := .tuple #[Jr k 0 0 m T, .int .i64 (n : Nat), .int .i64 e]) (by simp [results, Tryz.results96, go_sem, hc]) rfl ⟨rfl, ?_⟩
 have hb' := (by go_grown : Below w.heap.size w _).trans (hb.mono (by simp))
 go_grown
theorem a16 (s : ByteArray) (w : World) (h0 : 0 < s.size) (e34 : ((s[0].toNat : Int) == 34) = false) (H25 : Hid (G0 127 s[0] false)) (H26 : Hid (G0 128 s[0] false)) (H30 : Hid (G0 132 s[0] false))
  (H33 : Hid (∀ w, Calls Tryz.prog 135 #[.string s] w fun e w' => e = .returned (.int .i64 ((0 : Nat) : Int)) ∧ w = w')) :
  Calls Tryz.prog 96 #[.string s] w fun x w' => x = .returned (Mw 4) ∧ Below w.heap.size w w' := by
 have hne := Ff s h0
 go_enter Tryz.func96, Tryz.ntmps96
 go_wp2_with fail
 refine (H25.out _).mono ?_
 rintro e w' ⟨rfl, rfl⟩
 go_wp2_with fail
 refine (H26.out _).mono ?_
 rintro e w' ⟨rfl, rfl⟩
 go_wp2_with fail
 refine (H30.out _).mono ?_
 rintro e w' ⟨rfl, rfl⟩
 go_wp2_with fail
 refine (H33.out _).mono ?_
 rintro e w' ⟨rfl, rfl⟩
 go_wp2
 refine bodyPost_ret (v := Mw 4) (by simp [results, Tryz.results96, go_sem]) rfl ⟨rfl, ?_⟩
 go_grown
theorem a15 (s X : ByteArray) (w : World) (h0 : 0 < s.size) (n : Nat) (hn0 : ((n : Int) == 0) = false) (hn : n ≤ s.size) (hs : s.size ≤ 100000) (hX : s.extract 0 n = X) (e34 : ((s[0].toNat : Int) == 34) = false) (H25 : Hid (G0 127 s[0] false)) (H26 : Hid (G0 128 s[0] false)) (H30 : Hid (G0 132 s[0] false))
  (H33 : Hid (∀ w, Calls Tryz.prog 135 #[.string s] w fun e w' => e = .returned (.int .i64 (n : Nat)) ∧ w = w'))
  (H28 : Hid (∀ w, Calls Tryz.prog 130 #[.int .u8 7, .string X] w fun e w' => e = .returned (Jr 7 0 0 0 X) ∧ Below w.heap.size w w')) :
  Calls Tryz.prog 96 #[.string s] w fun x w' => x = .returned (.tuple #[Jr 7 0 0 0 X, .int .i64 (n : Nat), .int .i64 0]) ∧ Below w.heap.size w w' := by
 have hne := Ff s h0
 go_enter Tryz.func96, Tryz.ntmps96
 go_wp2_with fail
 refine (H25.out _).mono ?_
 rintro e w' ⟨rfl, rfl⟩
 go_wp2_with fail
 refine (H26.out _).mono ?_
 rintro e w' ⟨rfl, rfl⟩
 go_wp2_with fail
 refine (H30.out _).mono ?_
 rintro e w' ⟨rfl, rfl⟩
 go_wp2_with fail
 refine (H33.out _).mono ?_
 rintro e w' ⟨rfl, rfl⟩
 go_wp2_with fail
 refine (H28.out _).mono ?_
 rintro _ w1 ⟨rfl, hb⟩
 obtain ⟨hc, hf⟩ := Df hb
 have hz := hb.size
 simp only [World.size_alloc] at hc hf hz
 go_wp2
 refine bodyPost_ret (v := .tuple #[Jr 7 0 0 0 X, .int .i64 (n : Nat), .int .i64 0]) (by simp [results, Tryz.results96, go_sem, hc]) rfl ⟨rfl, ?_⟩
 have hb' := (by go_grown : Below w.heap.size w _).trans (hb.mono (by simp))
 go_grown
theorem b1y (l : List UInt8) (hl : l ≠ []) : sgn l ≤ l.length := by
 unfold sgn
 split
 ·rename_i h5
  have h6 : ∀ x ∈ O5, x.length = 2 := by decide
  have := h6 _ h5
  rw [List.length_take] at this; omega
 ·split
  ·cases l with
   | nil => exact absurd rfl hl
   | cons => simp
  ·omega
theorem Si (s : ByteArray) (n : Nat) : bs (s.data.toList.take n) = s.extract 0 n := by rw [← Hy, Qo]
theorem W3 (s : ByteArray) (w : World) (hs : s.size ≤ 100000) (h0 : 0 < s.size) :
  Calls Tryz.prog 96 #[.string s] w fun x w' => x = .returned (b0t (one s.data.toList)) ∧ Below w.heap.size w w' := by
 have hl : s.data.toList ≠ [] := fun e => by have := Af s; rw [e] at this; simp at this; omega
 have hhd := Ck s h0
 have hrl : Cb nam s.data.toList ≤ s.size := by rw [← Af]; exact Ij _ _
 have hsl : sgn s.data.toList ≤ s.size := by rw [← Af]; exact b1y _ hl
 have H16 := zz (fun w => M9 s (by omega) _ rfl w)
 have name : (sml s[0] || grt s[0]) = true → 1 ≤ Cb nam s.data.toList := fun h => I2 (by rw [hhd]; unfold nam; rw [h]; rfl) hl
 have H29 : (sml s[0] || grt s[0]) = true → ∀ w, Calls Tryz.prog 131 #[.string (s.extract 0 (Cb nam s.data.toList))] w fun e w' => e = .returned (.int .u8 (Mu s.data.toList : Nat)) ∧ w = w' := fun h w => by
  have hx : 0 < (s.extract 0 (Cb nam s.data.toList)).size := by rw [Dq s _ hrl]; exact name h
  refine Qb _ w hx _ (zz ?_)
  rw [Hy, Mu, hhd]
  have e0 : (s.extract 0 (Cb nam s.data.toList))[0] = s[0] := by
   have h1 := Ck _ hx
   rw [Hy] at h1
   rw [← h1, ← hhd]
   have h2 := name h
   cases hc : s.data.toList with
   | nil => exact absurd hc hl
   | cons c t =>
    rw [hc] at h2
    rw [show Cb nam (c :: t) = (Cb nam (c :: t) - 1) + 1 by omega, List.take_succ_cons]; rfl
  rw [e0]
 have hX := Dq s _ hrl
 unfold one
 rw [hhd]
 cases h1 : sml s[0] with
 | true =>
  rw [h1] at H29
  rw [if_pos (by simp)]; dsimp only [b0t]; rw [Si]
  exact Ul s _ w h0 hs _ _ hrl rfl (zz fun w => Kt h1 w) H16 (zz (H29 (by simp))) (zz fun w => N0 _ _ w (by omega))
 | false =>
  have H25 : Hid (G0 127 s[0] false) := zz fun w => Kt h1 w
  cases h2 : grt s[0] with
  | true =>
   rw [h2] at H29
   rw [if_pos (by simp)]; dsimp only [b0t]; rw [Si]
   exact Um s _ w h0 hs _ _ hrl rfl H25 (zz fun w => Hw h2 w) H16 (zz (H29 (by simp))) (zz fun w => N0 _ _ w (by omega))
  | false =>
   have H26 : Hid (G0 128 s[0] false) := zz fun w => Hw h2 w
   rw [if_neg (by simp)]
   cases h3 : dgt s[0] with
   | true =>
    rw [if_pos rfl]
    exact Uk s _ w h0 _ _ _ _ H25 H26 (zz fun w => Ts h3 w) (zz fun w => Vr s w hs h0 h3)
   | false =>
    have H30 : Hid (G0 132 s[0] false) := zz fun w => Ts h3 w
    rw [if_neg (by simp)]
    by_cases h34 : s[0] = 34
    ·rw [if_pos h34]
     exact Q9 s _ w h0 _ _ _ _ (by rw [h34]; rfl) H25 H26 H30 (zz fun w => R4 s w hs)
    ·rw [if_neg h34]
     have e34 : ((s[0].toNat : Int) == 34) = false := Ac (n := 34) (by decide) h34
     unfold Lp
     by_cases hn : sgn s.data.toList = 0
     ·rw [if_pos hn]
      exact a16 s w h0 e34 H25 H26 H30 (zz fun w => Rh s h0 0 hn w)
     ·rw [if_neg hn]; dsimp only [b0t]; rw [Si]
      exact a15 s _ w h0 _ (by rw [beq_eq_false_iff_ne]; omega) hsl hs rfl e34 H25 H26 H30 (zz fun w => J9 s w h0) (zz fun w => N0 7 _ w (by rw [Dq s _ hsl]; omega))
end
end Go.Proofs.YtoaplbljflhheaaGreat
