/-
 Contracts and plain facts on the way to PrettyWrites. Conditions: as each says.
-/
import Derived.Shelf.Pu.Clone
import Derived.Deep.RegionWith
import Derived.Test.YtoaplbljflhheaaGreatWab
import Derived.Test.YtoaplbljflhheaaGreatWaj
import Derived.Test.YtoaplbljflhheaaGreatWad
set_option maxHeartbeats 40000000
set_option maxRecDepth 100000
set_option linter.unusedVariables false
set_option linter.unusedSimpArgs false
namespace Go.Proofs.YtoaplbljflhheaaGreat
section
open Go.RowKit Go.Shelf
def b57 : Ren := { f := fun i => if i = 25 then 188 else i, t := fun i => if i = 37 then 58 else if i = 47 then 114 else i, g := fun i => i }
theorem b53 : LaysPu.n25 Tryz.prog b57 where
 mixed := by kernel_rfl
 f25 := by kernel_rfl
 t0 := by kernel_rfl
 a0 := fun w => by kernel_rfl
 z0 := fun w => by kernel_rfl
 v0 := fun w => by kernel_rfl
 i0 := by kernel_rfl
 t3 := by kernel_rfl
 a3 := fun w => by kernel_rfl
 z3 := fun w => by kernel_rfl
 v3 := fun w => by kernel_rfl
 i3 := by kernel_rfl
 t4 := by kernel_rfl
 a4 := fun w => by kernel_rfl
 z4 := fun w => by kernel_rfl
 v4 := fun w => by kernel_rfl
 i4 := by kernel_rfl
 t5 := by kernel_rfl
 a5 := fun w => by kernel_rfl
 z5 := fun w => by kernel_rfl
 v5 := fun w => by kernel_rfl
 i5 := by kernel_rfl
 t9 := by kernel_rfl
 a9 := fun w => by kernel_rfl
 z9 := fun w => by kernel_rfl
 v9 := fun w => by kernel_rfl
 i9 := by kernel_rfl
 t37 := by kernel_rfl
 a37 := fun w => by kernel_rfl
 z37 := fun w => by kernel_rfl
 v37 := fun w => by kernel_rfl
 i37 := by kernel_rfl
 t47 := by kernel_rfl
 a47 := fun w => by kernel_rfl
 z47 := fun w => by kernel_rfl
 v47 := fun w => by kernel_rfl
 i47 := by kernel_rfl
theorem a31 (s : ByteArray) (w : World) (hs : s.size ≤ 1000000) : Calls Tryz.prog 188 #[.string s] w fun e w' => e = .returned (.string s) ∧ Below w.heap.size w w' :=
 AnyPu.stringslite_Clone b53 s w (by omega)
theorem a0d (s : ByteArray) (w : World) (hs : s.size ≤ 1000000) : Calls Tryz.prog 168 #[.string s] w fun e w' => e = .returned (.string s) ∧ Below w.heap.size w w' := by
 have H := zz (fun w => a31 s w hs)
 go_enter Tryz.func168, Tryz.ntmps168
 go_wp2_with fail
 refine (H.out _).mono ?_
 rintro e w1 ⟨rfl, hb⟩
 go_wp2
 go_ret
 exact ⟨rfl, hb⟩
abbrev F9 (k a b : Nat) (n : Int) (s : ByteArray) : Value := .agg #[.int .u8 k, .int .i64 a, .int .i64 b, .int .i64 n, .string s]
theorem Mu (k : Nat) (s : ByteArray) (w : World) (hs : s.size ≤ 1000000) : Calls Tryz.prog 130 #[.int .u8 k, .string s] w fun e w' => e = .returned (F9 k 0 0 0 s) ∧ Below w.heap.size w w' := by
 have H := zz (fun w => a0d s w hs)
 go_enter Tryz.func130, Tryz.ntmps130
 go_wp2_with fail
 refine (H.out _).mono ?_
 rintro e w1 ⟨rfl, hb⟩
 obtain ⟨hc, hf⟩ := Bx hb
 have hz := hb.size
 simp only [World.size_alloc] at hc hf hz
 go_wp2
 refine bodyPost_ret (v := F9 k 0 0 0 s) (by simp [results, Tryz.results130, go_sem, hc]) rfl ⟨rfl, ?_⟩
 have hb' := (by go_grown : Below w.heap.size w _).trans (hb.mono (by simp))
 go_grown
end
end Go.Proofs.YtoaplbljflhheaaGreat
namespace Go.Proofs.YtoaplbljflhheaaGreat
section
open Go.RowKit
theorem Pw (s : ByteArray) (w : World) (h0 : 0 < s.size) (r : Nat) (hr : Hid ((if C0 s.data.toList = true then 6 else if grt s[0] = true then 2 else 1) = r)) :
  Calls Tryz.prog 131 #[.string s] w fun e w' => e = .returned (.int .u8 (r : Nat)) ∧ w = w' := by
 have hne := E8 s h0
 cases h1 : C0 s.data.toList with
 | true =>
  have H1 := zz (fun w => Qj s true h1 w)
  obtain rfl : 6 = r := by rw [← hr.out, h1]; rfl
  clear h1 hr
  go_enter Tryz.func131, Tryz.ntmps131
  go_wp2_with fail
  refine (H1.out _).mono ?_
  rintro e w' ⟨rfl, rfl⟩
  go_wp2
  go_ret
  exact ⟨rfl, rfl⟩
 | false =>
  have H1 := zz (fun w => Qj s false h1 w)
  cases h2 : grt s[0] with
  | true =>
   have H2 := zz (fun w => Hi h2 w)
   obtain rfl : 2 = r := by rw [← hr.out, h1, h2]; rfl
   clear h1 h2 hr
   go_enter Tryz.func131, Tryz.ntmps131
   go_wp2_with fail
   refine (H1.out _).mono ?_
   rintro e w' ⟨rfl, rfl⟩
   go_wp2_with fail
   refine (H2.out _).mono ?_
   rintro e w' ⟨rfl, rfl⟩
   go_wp2
   go_ret
   exact ⟨rfl, rfl⟩
  | false =>
   have H2 := zz (fun w => Hi h2 w)
   obtain rfl : 1 = r := by rw [← hr.out, h1, h2]; rfl
   clear h1 h2 hr
   go_enter Tryz.func131, Tryz.ntmps131
   go_wp2_with fail
   refine (H1.out _).mono ?_
   rintro e w' ⟨rfl, rfl⟩
   go_wp2_with fail
   refine (H2.out _).mono ?_
   rintro e w' ⟨rfl, rfl⟩
   go_wp2
   go_ret
   exact ⟨rfl, rfl⟩
theorem a07 (s : ByteArray) (w : World) (hs : s.size ≤ 1000000) (h0 : 0 < s.size) (T : ByteArray) (hT : Hid (bs (a85 s.data.toList) = T)) :
  Calls Tryz.prog 169 #[.string s] w fun e w' => e = .returned (.string T) ∧ w = w' := by
 obtain ⟨m, hm⟩ : ∃ m, s.size - 1 = m := ⟨_, rfl⟩
 have hl : (s.extract 0 m).data.toList = s.data.toList.dropLast := by rw [De, List.dropLast_eq_take, Ae, hm]; simp
 have hsz : (s.extract 0 m).size ≤ 1000000 := by rw [← Ae, hl, List.length_dropLast, Ae]; omega
 obtain ⟨n, hn⟩ : ∃ n, Bz nou s.data.toList.dropLast = n := ⟨_, rfl⟩
 have hnm : n ≤ s.size := by
  have := Gq nou s.data.toList.dropLast
  rw [hn, List.length_dropLast, Ae] at this; omega
 have HR := zz (fun w => Ul (s.extract 0 m) hsz n (by rw [hl, hn]) w)
 have hT2 := zz (show s.extract n s.size = T by
  rw [← hT.out, a85, hn]
  apply J3
  rw [Ee, Bk])
 have hmi : (s.size : Int) - 1 = m := by omega
 have hms : m ≤ s.size := by omega
 clear hl hn hT hm
 go_enter Tryz.func169, Tryz.ntmps169
 go_wp2_with fail
 refine (HR.out _).mono ?_
 rintro e w' ⟨rfl, rfl⟩
 go_wp2
 go_ret
 rw [← hT2.out]
 exact ⟨rfl, rfl⟩
theorem a6n (s X : ByteArray) (w : World) (h1 : 1 < s.size) (hX : s.extract 0 2 = X) (e0 : (X.toList == [38, 38]) = true) : Calls Tryz.prog 135 #[.string s] w fun e w' => e = .returned (.int .i64 2) ∧ w = w' := by
 have h2 : (2 : Int) ≤ s.size := by omega
 have h3 : 2 ≤ s.size := by omega
 go_enter Tryz.func135, Tryz.ntmps135
 go_wp2
 go_ret
 exact ⟨rfl, rfl⟩
theorem a6m (s X : ByteArray) (w : World) (h1 : 1 < s.size) (hX : s.extract 0 2 = X) (e0 : (X.toList == [38, 38]) = false) (e1 : (X.toList == [124, 124]) = true) : Calls Tryz.prog 135 #[.string s] w fun e w' => e = .returned (.int .i64 2) ∧ w = w' := by
 have h2 : (2 : Int) ≤ s.size := by omega
 have h3 : 2 ≤ s.size := by omega
 go_enter Tryz.func135, Tryz.ntmps135
 go_wp2
 go_ret
 exact ⟨rfl, rfl⟩
theorem a6l (s X : ByteArray) (w : World) (h1 : 1 < s.size) (hX : s.extract 0 2 = X) (e0 : (X.toList == [38, 38]) = false) (e1 : (X.toList == [124, 124]) = false) (e2 : (X.toList == [61, 61]) = true) : Calls Tryz.prog 135 #[.string s] w fun e w' => e = .returned (.int .i64 2) ∧ w = w' := by
 have h2 : (2 : Int) ≤ s.size := by omega
 have h3 : 2 ≤ s.size := by omega
 go_enter Tryz.func135, Tryz.ntmps135
 go_wp2
 go_ret
 exact ⟨rfl, rfl⟩
theorem a6k (s X : ByteArray) (w : World) (h1 : 1 < s.size) (hX : s.extract 0 2 = X) (e0 : (X.toList == [38, 38]) = false) (e1 : (X.toList == [124, 124]) = false) (e2 : (X.toList == [61, 61]) = false) (e3 : (X.toList == [33, 61]) = true) : Calls Tryz.prog 135 #[.string s] w fun e w' => e = .returned (.int .i64 2) ∧ w = w' := by
 have h2 : (2 : Int) ≤ s.size := by omega
 have h3 : 2 ≤ s.size := by omega
 go_enter Tryz.func135, Tryz.ntmps135
 go_wp2
 go_ret
 exact ⟨rfl, rfl⟩
theorem a6j (s X : ByteArray) (w : World) (h1 : 1 < s.size) (hX : s.extract 0 2 = X) (e0 : (X.toList == [38, 38]) = false) (e1 : (X.toList == [124, 124]) = false) (e2 : (X.toList == [61, 61]) = false) (e3 : (X.toList == [33, 61]) = false) (e4 : (X.toList == [60, 61]) = true) : Calls Tryz.prog 135 #[.string s] w fun e w' => e = .returned (.int .i64 2) ∧ w = w' := by
 have h2 : (2 : Int) ≤ s.size := by omega
 have h3 : 2 ≤ s.size := by omega
 go_enter Tryz.func135, Tryz.ntmps135
 go_wp2
 go_ret
 exact ⟨rfl, rfl⟩
theorem a6i (s X : ByteArray) (w : World) (h1 : 1 < s.size) (hX : s.extract 0 2 = X) (e0 : (X.toList == [38, 38]) = false) (e1 : (X.toList == [124, 124]) = false) (e2 : (X.toList == [61, 61]) = false) (e3 : (X.toList == [33, 61]) = false) (e4 : (X.toList == [60, 61]) = false) (e5 : (X.toList == [62, 61]) = true) : Calls Tryz.prog 135 #[.string s] w fun e w' => e = .returned (.int .i64 2) ∧ w = w' := by
 have h2 : (2 : Int) ≤ s.size := by omega
 have h3 : 2 ≤ s.size := by omega
 go_enter Tryz.func135, Tryz.ntmps135
 go_wp2
 go_ret
 exact ⟨rfl, rfl⟩
theorem Xm (s X : ByteArray) (w : World) (h0 : 0 < s.size) (h1 : ¬ 1 < s.size) (f0 : ((s[0].toNat : Int) == 43) = true) : Calls Tryz.prog 135 #[.string s] w fun e w' => e = .returned (.int .i64 1) ∧ w = w' := by
 have h2 : ¬ (1 : Int) < s.size := by omega
 go_enter Tryz.func135, Tryz.ntmps135
 go_wp2
 go_ret
 exact ⟨rfl, rfl⟩
theorem Xl (s X : ByteArray) (w : World) (h0 : 0 < s.size) (h1 : 1 < s.size) (hX : s.extract 0 2 = X) (e0 : (X.toList == [38, 38]) = false) (e1 : (X.toList == [124, 124]) = false) (e2 : (X.toList == [61, 61]) = false) (e3 : (X.toList == [33, 61]) = false) (e4 : (X.toList == [60, 61]) = false) (e5 : (X.toList == [62, 61]) = false) (f0 : ((s[0].toNat : Int) == 43) = true) : Calls Tryz.prog 135 #[.string s] w fun e w' => e = .returned (.int .i64 1) ∧ w = w' := by
 have h2 : (2 : Int) ≤ s.size := by omega
 have h3 : 2 ≤ s.size := by omega
 go_enter Tryz.func135, Tryz.ntmps135
 go_wp2
 go_ret
 exact ⟨rfl, rfl⟩
theorem Xk (s X : ByteArray) (w : World) (h0 : 0 < s.size) (h1 : ¬ 1 < s.size) (f0 : ((s[0].toNat : Int) == 43) = false) (f1 : ((s[0].toNat : Int) == 45) = true) : Calls Tryz.prog 135 #[.string s] w fun e w' => e = .returned (.int .i64 1) ∧ w = w' := by
 have h2 : ¬ (1 : Int) < s.size := by omega
 go_enter Tryz.func135, Tryz.ntmps135
 go_wp2
 go_ret
 exact ⟨rfl, rfl⟩
theorem Xj (s X : ByteArray) (w : World) (h0 : 0 < s.size) (h1 : 1 < s.size) (hX : s.extract 0 2 = X) (e0 : (X.toList == [38, 38]) = false) (e1 : (X.toList == [124, 124]) = false) (e2 : (X.toList == [61, 61]) = false) (e3 : (X.toList == [33, 61]) = false) (e4 : (X.toList == [60, 61]) = false) (e5 : (X.toList == [62, 61]) = false) (f0 : ((s[0].toNat : Int) == 43) = false) (f1 : ((s[0].toNat : Int) == 45) = true) : Calls Tryz.prog 135 #[.string s] w fun e w' => e = .returned (.int .i64 1) ∧ w = w' := by
 have h2 : (2 : Int) ≤ s.size := by omega
 have h3 : 2 ≤ s.size := by omega
 go_enter Tryz.func135, Tryz.ntmps135
 go_wp2
 go_ret
 exact ⟨rfl, rfl⟩
theorem Xi (s X : ByteArray) (w : World) (h0 : 0 < s.size) (h1 : ¬ 1 < s.size) (f0 : ((s[0].toNat : Int) == 43) = false) (f1 : ((s[0].toNat : Int) == 45) = false) (f2 : ((s[0].toNat : Int) == 42) = true) : Calls Tryz.prog 135 #[.string s] w fun e w' => e = .returned (.int .i64 1) ∧ w = w' := by
 have h2 : ¬ (1 : Int) < s.size := by omega
 go_enter Tryz.func135, Tryz.ntmps135
 go_wp2
 go_ret
 exact ⟨rfl, rfl⟩
theorem Xh (s X : ByteArray) (w : World) (h0 : 0 < s.size) (h1 : 1 < s.size) (hX : s.extract 0 2 = X) (e0 : (X.toList == [38, 38]) = false) (e1 : (X.toList == [124, 124]) = false) (e2 : (X.toList == [61, 61]) = false) (e3 : (X.toList == [33, 61]) = false) (e4 : (X.toList == [60, 61]) = false) (e5 : (X.toList == [62, 61]) = false) (f0 : ((s[0].toNat : Int) == 43) = false) (f1 : ((s[0].toNat : Int) == 45) = false) (f2 : ((s[0].toNat : Int) == 42) = true) : Calls Tryz.prog 135 #[.string s] w fun e w' => e = .returned (.int .i64 1) ∧ w = w' := by
 have h2 : (2 : Int) ≤ s.size := by omega
 have h3 : 2 ≤ s.size := by omega
 go_enter Tryz.func135, Tryz.ntmps135
 go_wp2
 go_ret
 exact ⟨rfl, rfl⟩
theorem Xg (s X : ByteArray) (w : World) (h0 : 0 < s.size) (h1 : ¬ 1 < s.size) (f0 : ((s[0].toNat : Int) == 43) = false) (f1 : ((s[0].toNat : Int) == 45) = false) (f2 : ((s[0].toNat : Int) == 42) = false) (f3 : ((s[0].toNat : Int) == 47) = true) : Calls Tryz.prog 135 #[.string s] w fun e w' => e = .returned (.int .i64 1) ∧ w = w' := by
 have h2 : ¬ (1 : Int) < s.size := by omega
 go_enter Tryz.func135, Tryz.ntmps135
 go_wp2
 go_ret
 exact ⟨rfl, rfl⟩
theorem Xf (s X : ByteArray) (w : World) (h0 : 0 < s.size) (h1 : 1 < s.size) (hX : s.extract 0 2 = X) (e0 : (X.toList == [38, 38]) = false) (e1 : (X.toList == [124, 124]) = false) (e2 : (X.toList == [61, 61]) = false) (e3 : (X.toList == [33, 61]) = false) (e4 : (X.toList == [60, 61]) = false) (e5 : (X.toList == [62, 61]) = false) (f0 : ((s[0].toNat : Int) == 43) = false) (f1 : ((s[0].toNat : Int) == 45) = false) (f2 : ((s[0].toNat : Int) == 42) = false) (f3 : ((s[0].toNat : Int) == 47) = true) : Calls Tryz.prog 135 #[.string s] w fun e w' => e = .returned (.int .i64 1) ∧ w = w' := by
 have h2 : (2 : Int) ≤ s.size := by omega
 have h3 : 2 ≤ s.size := by omega
 go_enter Tryz.func135, Tryz.ntmps135
 go_wp2
 go_ret
 exact ⟨rfl, rfl⟩
theorem Xe (s X : ByteArray) (w : World) (h0 : 0 < s.size) (h1 : ¬ 1 < s.size) (f0 : ((s[0].toNat : Int) == 43) = false) (f1 : ((s[0].toNat : Int) == 45) = false) (f2 : ((s[0].toNat : Int) == 42) = false) (f3 : ((s[0].toNat : Int) == 47) = false) (f4 : ((s[0].toNat : Int) == 37) = true) : Calls Tryz.prog 135 #[.string s] w fun e w' => e = .returned (.int .i64 1) ∧ w = w' := by
 have h2 : ¬ (1 : Int) < s.size := by omega
 go_enter Tryz.func135, Tryz.ntmps135
 go_wp2
 go_ret
 exact ⟨rfl, rfl⟩
theorem Xd (s X : ByteArray) (w : World) (h0 : 0 < s.size) (h1 : 1 < s.size) (hX : s.extract 0 2 = X) (e0 : (X.toList == [38, 38]) = false) (e1 : (X.toList == [124, 124]) = false) (e2 : (X.toList == [61, 61]) = false) (e3 : (X.toList == [33, 61]) = false) (e4 : (X.toList == [60, 61]) = false) (e5 : (X.toList == [62, 61]) = false) (f0 : ((s[0].toNat : Int) == 43) = false) (f1 : ((s[0].toNat : Int) == 45) = false) (f2 : ((s[0].toNat : Int) == 42) = false) (f3 : ((s[0].toNat : Int) == 47) = false) (f4 : ((s[0].toNat : Int) == 37) = true) : Calls Tryz.prog 135 #[.string s] w fun e w' => e = .returned (.int .i64 1) ∧ w = w' := by
 have h2 : (2 : Int) ≤ s.size := by omega
 have h3 : 2 ≤ s.size := by omega
 go_enter Tryz.func135, Tryz.ntmps135
 go_wp2
 go_ret
 exact ⟨rfl, rfl⟩
theorem Xc (s X : ByteArray) (w : World) (h0 : 0 < s.size) (h1 : ¬ 1 < s.size) (f0 : ((s[0].toNat : Int) == 43) = false) (f1 : ((s[0].toNat : Int) == 45) = false) (f2 : ((s[0].toNat : Int) == 42) = false) (f3 : ((s[0].toNat : Int) == 47) = false) (f4 : ((s[0].toNat : Int) == 37) = false) (f5 : ((s[0].toNat : Int) == 60) = true) : Calls Tryz.prog 135 #[.string s] w fun e w' => e = .returned (.int .i64 1) ∧ w = w' := by
 have h2 : ¬ (1 : Int) < s.size := by omega
 go_enter Tryz.func135, Tryz.ntmps135
 go_wp2
 go_ret
 exact ⟨rfl, rfl⟩
theorem Xb (s X : ByteArray) (w : World) (h0 : 0 < s.size) (h1 : 1 < s.size) (hX : s.extract 0 2 = X) (e0 : (X.toList == [38, 38]) = false) (e1 : (X.toList == [124, 124]) = false) (e2 : (X.toList == [61, 61]) = false) (e3 : (X.toList == [33, 61]) = false) (e4 : (X.toList == [60, 61]) = false) (e5 : (X.toList == [62, 61]) = false) (f0 : ((s[0].toNat : Int) == 43) = false) (f1 : ((s[0].toNat : Int) == 45) = false) (f2 : ((s[0].toNat : Int) == 42) = false) (f3 : ((s[0].toNat : Int) == 47) = false) (f4 : ((s[0].toNat : Int) == 37) = false) (f5 : ((s[0].toNat : Int) == 60) = true) : Calls Tryz.prog 135 #[.string s] w fun e w' => e = .returned (.int .i64 1) ∧ w = w' := by
 have h2 : (2 : Int) ≤ s.size := by omega
 have h3 : 2 ≤ s.size := by omega
 go_enter Tryz.func135, Tryz.ntmps135
 go_wp2
 go_ret
 exact ⟨rfl, rfl⟩
theorem Xa (s X : ByteArray) (w : World) (h0 : 0 < s.size) (h1 : ¬ 1 < s.size) (f0 : ((s[0].toNat : Int) == 43) = false) (f1 : ((s[0].toNat : Int) == 45) = false) (f2 : ((s[0].toNat : Int) == 42) = false) (f3 : ((s[0].toNat : Int) == 47) = false) (f4 : ((s[0].toNat : Int) == 37) = false) (f5 : ((s[0].toNat : Int) == 60) = false) (f6 : ((s[0].toNat : Int) == 62) = true) : Calls Tryz.prog 135 #[.string s] w fun e w' => e = .returned (.int .i64 1) ∧ w = w' := by
 have h2 : ¬ (1 : Int) < s.size := by omega
 go_enter Tryz.func135, Tryz.ntmps135
 go_wp2
 go_ret
 exact ⟨rfl, rfl⟩
theorem W9 (s X : ByteArray) (w : World) (h0 : 0 < s.size) (h1 : 1 < s.size) (hX : s.extract 0 2 = X) (e0 : (X.toList == [38, 38]) = false) (e1 : (X.toList == [124, 124]) = false) (e2 : (X.toList == [61, 61]) = false) (e3 : (X.toList == [33, 61]) = false) (e4 : (X.toList == [60, 61]) = false) (e5 : (X.toList == [62, 61]) = false) (f0 : ((s[0].toNat : Int) == 43) = false) (f1 : ((s[0].toNat : Int) == 45) = false) (f2 : ((s[0].toNat : Int) == 42) = false) (f3 : ((s[0].toNat : Int) == 47) = false) (f4 : ((s[0].toNat : Int) == 37) = false) (f5 : ((s[0].toNat : Int) == 60) = false) (f6 : ((s[0].toNat : Int) == 62) = true) : Calls Tryz.prog 135 #[.string s] w fun e w' => e = .returned (.int .i64 1) ∧ w = w' := by
 have h2 : (2 : Int) ≤ s.size := by omega
 have h3 : 2 ≤ s.size := by omega
 go_enter Tryz.func135, Tryz.ntmps135
 go_wp2
 go_ret
 exact ⟨rfl, rfl⟩
theorem W8 (s X : ByteArray) (w : World) (h0 : 0 < s.size) (h1 : ¬ 1 < s.size) (f0 : ((s[0].toNat : Int) == 43) = false) (f1 : ((s[0].toNat : Int) == 45) = false) (f2 : ((s[0].toNat : Int) == 42) = false) (f3 : ((s[0].toNat : Int) == 47) = false) (f4 : ((s[0].toNat : Int) == 37) = false) (f5 : ((s[0].toNat : Int) == 60) = false) (f6 : ((s[0].toNat : Int) == 62) = false) (f7 : ((s[0].toNat : Int) == 33) = true) : Calls Tryz.prog 135 #[.string s] w fun e w' => e = .returned (.int .i64 1) ∧ w = w' := by
 have h2 : ¬ (1 : Int) < s.size := by omega
 go_enter Tryz.func135, Tryz.ntmps135
 go_wp2
 go_ret
 exact ⟨rfl, rfl⟩
theorem W7 (s X : ByteArray) (w : World) (h0 : 0 < s.size) (h1 : 1 < s.size) (hX : s.extract 0 2 = X) (e0 : (X.toList == [38, 38]) = false) (e1 : (X.toList == [124, 124]) = false) (e2 : (X.toList == [61, 61]) = false) (e3 : (X.toList == [33, 61]) = false) (e4 : (X.toList == [60, 61]) = false) (e5 : (X.toList == [62, 61]) = false) (f0 : ((s[0].toNat : Int) == 43) = false) (f1 : ((s[0].toNat : Int) == 45) = false) (f2 : ((s[0].toNat : Int) == 42) = false) (f3 : ((s[0].toNat : Int) == 47) = false) (f4 : ((s[0].toNat : Int) == 37) = false) (f5 : ((s[0].toNat : Int) == 60) = false) (f6 : ((s[0].toNat : Int) == 62) = false) (f7 : ((s[0].toNat : Int) == 33) = true) : Calls Tryz.prog 135 #[.string s] w fun e w' => e = .returned (.int .i64 1) ∧ w = w' := by
 have h2 : (2 : Int) ≤ s.size := by omega
 have h3 : 2 ≤ s.size := by omega
 go_enter Tryz.func135, Tryz.ntmps135
 go_wp2
 go_ret
 exact ⟨rfl, rfl⟩
theorem W6 (s X : ByteArray) (w : World) (h0 : 0 < s.size) (h1 : ¬ 1 < s.size) (f0 : ((s[0].toNat : Int) == 43) = false) (f1 : ((s[0].toNat : Int) == 45) = false) (f2 : ((s[0].toNat : Int) == 42) = false) (f3 : ((s[0].toNat : Int) == 47) = false) (f4 : ((s[0].toNat : Int) == 37) = false) (f5 : ((s[0].toNat : Int) == 60) = false) (f6 : ((s[0].toNat : Int) == 62) = false) (f7 : ((s[0].toNat : Int) == 33) = false) (f8 : ((s[0].toNat : Int) == 61) = true) : Calls Tryz.prog 135 #[.string s] w fun e w' => e = .returned (.int .i64 1) ∧ w = w' := by
 have h2 : ¬ (1 : Int) < s.size := by omega
 go_enter Tryz.func135, Tryz.ntmps135
 go_wp2
 go_ret
 exact ⟨rfl, rfl⟩
theorem W5 (s X : ByteArray) (w : World) (h0 : 0 < s.size) (h1 : 1 < s.size) (hX : s.extract 0 2 = X) (e0 : (X.toList == [38, 38]) = false) (e1 : (X.toList == [124, 124]) = false) (e2 : (X.toList == [61, 61]) = false) (e3 : (X.toList == [33, 61]) = false) (e4 : (X.toList == [60, 61]) = false) (e5 : (X.toList == [62, 61]) = false) (f0 : ((s[0].toNat : Int) == 43) = false) (f1 : ((s[0].toNat : Int) == 45) = false) (f2 : ((s[0].toNat : Int) == 42) = false) (f3 : ((s[0].toNat : Int) == 47) = false) (f4 : ((s[0].toNat : Int) == 37) = false) (f5 : ((s[0].toNat : Int) == 60) = false) (f6 : ((s[0].toNat : Int) == 62) = false) (f7 : ((s[0].toNat : Int) == 33) = false) (f8 : ((s[0].toNat : Int) == 61) = true) : Calls Tryz.prog 135 #[.string s] w fun e w' => e = .returned (.int .i64 1) ∧ w = w' := by
 have h2 : (2 : Int) ≤ s.size := by omega
 have h3 : 2 ≤ s.size := by omega
 go_enter Tryz.func135, Tryz.ntmps135
 go_wp2
 go_ret
 exact ⟨rfl, rfl⟩
theorem W4 (s X : ByteArray) (w : World) (h0 : 0 < s.size) (h1 : ¬ 1 < s.size) (f0 : ((s[0].toNat : Int) == 43) = false) (f1 : ((s[0].toNat : Int) == 45) = false) (f2 : ((s[0].toNat : Int) == 42) = false) (f3 : ((s[0].toNat : Int) == 47) = false) (f4 : ((s[0].toNat : Int) == 37) = false) (f5 : ((s[0].toNat : Int) == 60) = false) (f6 : ((s[0].toNat : Int) == 62) = false) (f7 : ((s[0].toNat : Int) == 33) = false) (f8 : ((s[0].toNat : Int) == 61) = false) (f9 : ((s[0].toNat : Int) == 40) = true) : Calls Tryz.prog 135 #[.string s] w fun e w' => e = .returned (.int .i64 1) ∧ w = w' := by
 have h2 : ¬ (1 : Int) < s.size := by omega
 go_enter Tryz.func135, Tryz.ntmps135
 go_wp2
 go_ret
 exact ⟨rfl, rfl⟩
theorem W0 (s X : ByteArray) (w : World) (h0 : 0 < s.size) (h1 : 1 < s.size) (hX : s.extract 0 2 = X) (e0 : (X.toList == [38, 38]) = false) (e1 : (X.toList == [124, 124]) = false) (e2 : (X.toList == [61, 61]) = false) (e3 : (X.toList == [33, 61]) = false) (e4 : (X.toList == [60, 61]) = false) (e5 : (X.toList == [62, 61]) = false) (f0 : ((s[0].toNat : Int) == 43) = false) (f1 : ((s[0].toNat : Int) == 45) = false) (f2 : ((s[0].toNat : Int) == 42) = false) (f3 : ((s[0].toNat : Int) == 47) = false) (f4 : ((s[0].toNat : Int) == 37) = false) (f5 : ((s[0].toNat : Int) == 60) = false) (f6 : ((s[0].toNat : Int) == 62) = false) (f7 : ((s[0].toNat : Int) == 33) = false) (f8 : ((s[0].toNat : Int) == 61) = false) (f9 : ((s[0].toNat : Int) == 40) = true) : Calls Tryz.prog 135 #[.string s] w fun e w' => e = .returned (.int .i64 1) ∧ w = w' := by
 have h2 : (2 : Int) ≤ s.size := by omega
 have h3 : 2 ≤ s.size := by omega
 go_enter Tryz.func135, Tryz.ntmps135
 go_wp2
 go_ret
 exact ⟨rfl, rfl⟩
theorem Uj (s X : ByteArray) (w : World) (h0 : 0 < s.size) (h1 : ¬ 1 < s.size) (f0 : ((s[0].toNat : Int) == 43) = false) (f1 : ((s[0].toNat : Int) == 45) = false) (f2 : ((s[0].toNat : Int) == 42) = false) (f3 : ((s[0].toNat : Int) == 47) = false) (f4 : ((s[0].toNat : Int) == 37) = false) (f5 : ((s[0].toNat : Int) == 60) = false) (f6 : ((s[0].toNat : Int) == 62) = false) (f7 : ((s[0].toNat : Int) == 33) = false) (f8 : ((s[0].toNat : Int) == 61) = false) (f9 : ((s[0].toNat : Int) == 40) = false) (f10 : ((s[0].toNat : Int) == 41) = true) : Calls Tryz.prog 135 #[.string s] w fun e w' => e = .returned (.int .i64 1) ∧ w = w' := by
 have h2 : ¬ (1 : Int) < s.size := by omega
 go_enter Tryz.func135, Tryz.ntmps135
 go_wp2
 go_ret
 exact ⟨rfl, rfl⟩
theorem Ui (s X : ByteArray) (w : World) (h0 : 0 < s.size) (h1 : 1 < s.size) (hX : s.extract 0 2 = X) (e0 : (X.toList == [38, 38]) = false) (e1 : (X.toList == [124, 124]) = false) (e2 : (X.toList == [61, 61]) = false) (e3 : (X.toList == [33, 61]) = false) (e4 : (X.toList == [60, 61]) = false) (e5 : (X.toList == [62, 61]) = false) (f0 : ((s[0].toNat : Int) == 43) = false) (f1 : ((s[0].toNat : Int) == 45) = false) (f2 : ((s[0].toNat : Int) == 42) = false) (f3 : ((s[0].toNat : Int) == 47) = false) (f4 : ((s[0].toNat : Int) == 37) = false) (f5 : ((s[0].toNat : Int) == 60) = false) (f6 : ((s[0].toNat : Int) == 62) = false) (f7 : ((s[0].toNat : Int) == 33) = false) (f8 : ((s[0].toNat : Int) == 61) = false) (f9 : ((s[0].toNat : Int) == 40) = false) (f10 : ((s[0].toNat : Int) == 41) = true) : Calls Tryz.prog 135 #[.string s] w fun e w' => e = .returned (.int .i64 1) ∧ w = w' := by
 have h2 : (2 : Int) ≤ s.size := by omega
 have h3 : 2 ≤ s.size := by omega
 go_enter Tryz.func135, Tryz.ntmps135
 go_wp2
 go_ret
 exact ⟨rfl, rfl⟩
theorem Uh (s X : ByteArray) (w : World) (h0 : 0 < s.size) (h1 : ¬ 1 < s.size) (f0 : ((s[0].toNat : Int) == 43) = false) (f1 : ((s[0].toNat : Int) == 45) = false) (f2 : ((s[0].toNat : Int) == 42) = false) (f3 : ((s[0].toNat : Int) == 47) = false) (f4 : ((s[0].toNat : Int) == 37) = false) (f5 : ((s[0].toNat : Int) == 60) = false) (f6 : ((s[0].toNat : Int) == 62) = false) (f7 : ((s[0].toNat : Int) == 33) = false) (f8 : ((s[0].toNat : Int) == 61) = false) (f9 : ((s[0].toNat : Int) == 40) = false) (f10 : ((s[0].toNat : Int) == 41) = false) (f11 : ((s[0].toNat : Int) == 123) = true) : Calls Tryz.prog 135 #[.string s] w fun e w' => e = .returned (.int .i64 1) ∧ w = w' := by
 have h2 : ¬ (1 : Int) < s.size := by omega
 go_enter Tryz.func135, Tryz.ntmps135
 go_wp2
 go_ret
 exact ⟨rfl, rfl⟩
theorem Ug (s X : ByteArray) (w : World) (h0 : 0 < s.size) (h1 : 1 < s.size) (hX : s.extract 0 2 = X) (e0 : (X.toList == [38, 38]) = false) (e1 : (X.toList == [124, 124]) = false) (e2 : (X.toList == [61, 61]) = false) (e3 : (X.toList == [33, 61]) = false) (e4 : (X.toList == [60, 61]) = false) (e5 : (X.toList == [62, 61]) = false) (f0 : ((s[0].toNat : Int) == 43) = false) (f1 : ((s[0].toNat : Int) == 45) = false) (f2 : ((s[0].toNat : Int) == 42) = false) (f3 : ((s[0].toNat : Int) == 47) = false) (f4 : ((s[0].toNat : Int) == 37) = false) (f5 : ((s[0].toNat : Int) == 60) = false) (f6 : ((s[0].toNat : Int) == 62) = false) (f7 : ((s[0].toNat : Int) == 33) = false) (f8 : ((s[0].toNat : Int) == 61) = false) (f9 : ((s[0].toNat : Int) == 40) = false) (f10 : ((s[0].toNat : Int) == 41) = false) (f11 : ((s[0].toNat : Int) == 123) = true) : Calls Tryz.prog 135 #[.string s] w fun e w' => e = .returned (.int .i64 1) ∧ w = w' := by
 have h2 : (2 : Int) ≤ s.size := by omega
 have h3 : 2 ≤ s.size := by omega
 go_enter Tryz.func135, Tryz.ntmps135
 go_wp2
 go_ret
 exact ⟨rfl, rfl⟩
theorem Uf (s X : ByteArray) (w : World) (h0 : 0 < s.size) (h1 : ¬ 1 < s.size) (f0 : ((s[0].toNat : Int) == 43) = false) (f1 : ((s[0].toNat : Int) == 45) = false) (f2 : ((s[0].toNat : Int) == 42) = false) (f3 : ((s[0].toNat : Int) == 47) = false) (f4 : ((s[0].toNat : Int) == 37) = false) (f5 : ((s[0].toNat : Int) == 60) = false) (f6 : ((s[0].toNat : Int) == 62) = false) (f7 : ((s[0].toNat : Int) == 33) = false) (f8 : ((s[0].toNat : Int) == 61) = false) (f9 : ((s[0].toNat : Int) == 40) = false) (f10 : ((s[0].toNat : Int) == 41) = false) (f11 : ((s[0].toNat : Int) == 123) = false) (f12 : ((s[0].toNat : Int) == 125) = true) : Calls Tryz.prog 135 #[.string s] w fun e w' => e = .returned (.int .i64 1) ∧ w = w' := by
 have h2 : ¬ (1 : Int) < s.size := by omega
 go_enter Tryz.func135, Tryz.ntmps135
 go_wp2
 go_ret
 exact ⟨rfl, rfl⟩
theorem Ue (s X : ByteArray) (w : World) (h0 : 0 < s.size) (h1 : 1 < s.size) (hX : s.extract 0 2 = X) (e0 : (X.toList == [38, 38]) = false) (e1 : (X.toList == [124, 124]) = false) (e2 : (X.toList == [61, 61]) = false) (e3 : (X.toList == [33, 61]) = false) (e4 : (X.toList == [60, 61]) = false) (e5 : (X.toList == [62, 61]) = false) (f0 : ((s[0].toNat : Int) == 43) = false) (f1 : ((s[0].toNat : Int) == 45) = false) (f2 : ((s[0].toNat : Int) == 42) = false) (f3 : ((s[0].toNat : Int) == 47) = false) (f4 : ((s[0].toNat : Int) == 37) = false) (f5 : ((s[0].toNat : Int) == 60) = false) (f6 : ((s[0].toNat : Int) == 62) = false) (f7 : ((s[0].toNat : Int) == 33) = false) (f8 : ((s[0].toNat : Int) == 61) = false) (f9 : ((s[0].toNat : Int) == 40) = false) (f10 : ((s[0].toNat : Int) == 41) = false) (f11 : ((s[0].toNat : Int) == 123) = false) (f12 : ((s[0].toNat : Int) == 125) = true) : Calls Tryz.prog 135 #[.string s] w fun e w' => e = .returned (.int .i64 1) ∧ w = w' := by
 have h2 : (2 : Int) ≤ s.size := by omega
 have h3 : 2 ≤ s.size := by omega
 go_enter Tryz.func135, Tryz.ntmps135
 go_wp2
 go_ret
 exact ⟨rfl, rfl⟩
theorem Ud (s X : ByteArray) (w : World) (h0 : 0 < s.size) (h1 : ¬ 1 < s.size) (f0 : ((s[0].toNat : Int) == 43) = false) (f1 : ((s[0].toNat : Int) == 45) = false) (f2 : ((s[0].toNat : Int) == 42) = false) (f3 : ((s[0].toNat : Int) == 47) = false) (f4 : ((s[0].toNat : Int) == 37) = false) (f5 : ((s[0].toNat : Int) == 60) = false) (f6 : ((s[0].toNat : Int) == 62) = false) (f7 : ((s[0].toNat : Int) == 33) = false) (f8 : ((s[0].toNat : Int) == 61) = false) (f9 : ((s[0].toNat : Int) == 40) = false) (f10 : ((s[0].toNat : Int) == 41) = false) (f11 : ((s[0].toNat : Int) == 123) = false) (f12 : ((s[0].toNat : Int) == 125) = false) (f13 : ((s[0].toNat : Int) == 91) = true) : Calls Tryz.prog 135 #[.string s] w fun e w' => e = .returned (.int .i64 1) ∧ w = w' := by
 have h2 : ¬ (1 : Int) < s.size := by omega
 go_enter Tryz.func135, Tryz.ntmps135
 go_wp2
 go_ret
 exact ⟨rfl, rfl⟩
theorem Uc (s X : ByteArray) (w : World) (h0 : 0 < s.size) (h1 : 1 < s.size) (hX : s.extract 0 2 = X) (e0 : (X.toList == [38, 38]) = false) (e1 : (X.toList == [124, 124]) = false) (e2 : (X.toList == [61, 61]) = false) (e3 : (X.toList == [33, 61]) = false) (e4 : (X.toList == [60, 61]) = false) (e5 : (X.toList == [62, 61]) = false) (f0 : ((s[0].toNat : Int) == 43) = false) (f1 : ((s[0].toNat : Int) == 45) = false) (f2 : ((s[0].toNat : Int) == 42) = false) (f3 : ((s[0].toNat : Int) == 47) = false) (f4 : ((s[0].toNat : Int) == 37) = false) (f5 : ((s[0].toNat : Int) == 60) = false) (f6 : ((s[0].toNat : Int) == 62) = false) (f7 : ((s[0].toNat : Int) == 33) = false) (f8 : ((s[0].toNat : Int) == 61) = false) (f9 : ((s[0].toNat : Int) == 40) = false) (f10 : ((s[0].toNat : Int) == 41) = false) (f11 : ((s[0].toNat : Int) == 123) = false) (f12 : ((s[0].toNat : Int) == 125) = false) (f13 : ((s[0].toNat : Int) == 91) = true) : Calls Tryz.prog 135 #[.string s] w fun e w' => e = .returned (.int .i64 1) ∧ w = w' := by
 have h2 : (2 : Int) ≤ s.size := by omega
 have h3 : 2 ≤ s.size := by omega
 go_enter Tryz.func135, Tryz.ntmps135
 go_wp2
 go_ret
 exact ⟨rfl, rfl⟩
theorem Ub (s X : ByteArray) (w : World) (h0 : 0 < s.size) (h1 : ¬ 1 < s.size) (f0 : ((s[0].toNat : Int) == 43) = false) (f1 : ((s[0].toNat : Int) == 45) = false) (f2 : ((s[0].toNat : Int) == 42) = false) (f3 : ((s[0].toNat : Int) == 47) = false) (f4 : ((s[0].toNat : Int) == 37) = false) (f5 : ((s[0].toNat : Int) == 60) = false) (f6 : ((s[0].toNat : Int) == 62) = false) (f7 : ((s[0].toNat : Int) == 33) = false) (f8 : ((s[0].toNat : Int) == 61) = false) (f9 : ((s[0].toNat : Int) == 40) = false) (f10 : ((s[0].toNat : Int) == 41) = false) (f11 : ((s[0].toNat : Int) == 123) = false) (f12 : ((s[0].toNat : Int) == 125) = false) (f13 : ((s[0].toNat : Int) == 91) = false) (f14 : ((s[0].toNat : Int) == 93) = true) : Calls Tryz.prog 135 #[.string s] w fun e w' => e = .returned (.int .i64 1) ∧ w = w' := by
 have h2 : ¬ (1 : Int) < s.size := by omega
 go_enter Tryz.func135, Tryz.ntmps135
 go_wp2
 go_ret
 exact ⟨rfl, rfl⟩
theorem Ua (s X : ByteArray) (w : World) (h0 : 0 < s.size) (h1 : 1 < s.size) (hX : s.extract 0 2 = X) (e0 : (X.toList == [38, 38]) = false) (e1 : (X.toList == [124, 124]) = false) (e2 : (X.toList == [61, 61]) = false) (e3 : (X.toList == [33, 61]) = false) (e4 : (X.toList == [60, 61]) = false) (e5 : (X.toList == [62, 61]) = false) (f0 : ((s[0].toNat : Int) == 43) = false) (f1 : ((s[0].toNat : Int) == 45) = false) (f2 : ((s[0].toNat : Int) == 42) = false) (f3 : ((s[0].toNat : Int) == 47) = false) (f4 : ((s[0].toNat : Int) == 37) = false) (f5 : ((s[0].toNat : Int) == 60) = false) (f6 : ((s[0].toNat : Int) == 62) = false) (f7 : ((s[0].toNat : Int) == 33) = false) (f8 : ((s[0].toNat : Int) == 61) = false) (f9 : ((s[0].toNat : Int) == 40) = false) (f10 : ((s[0].toNat : Int) == 41) = false) (f11 : ((s[0].toNat : Int) == 123) = false) (f12 : ((s[0].toNat : Int) == 125) = false) (f13 : ((s[0].toNat : Int) == 91) = false) (f14 : ((s[0].toNat : Int) == 93) = true) : Calls Tryz.prog 135 #[.string s] w fun e w' => e = .returned (.int .i64 1) ∧ w = w' := by
 have h2 : (2 : Int) ≤ s.size := by omega
 have h3 : 2 ≤ s.size := by omega
 go_enter Tryz.func135, Tryz.ntmps135
 go_wp2
 go_ret
 exact ⟨rfl, rfl⟩
theorem T9 (s X : ByteArray) (w : World) (h0 : 0 < s.size) (h1 : ¬ 1 < s.size) (f0 : ((s[0].toNat : Int) == 43) = false) (f1 : ((s[0].toNat : Int) == 45) = false) (f2 : ((s[0].toNat : Int) == 42) = false) (f3 : ((s[0].toNat : Int) == 47) = false) (f4 : ((s[0].toNat : Int) == 37) = false) (f5 : ((s[0].toNat : Int) == 60) = false) (f6 : ((s[0].toNat : Int) == 62) = false) (f7 : ((s[0].toNat : Int) == 33) = false) (f8 : ((s[0].toNat : Int) == 61) = false) (f9 : ((s[0].toNat : Int) == 40) = false) (f10 : ((s[0].toNat : Int) == 41) = false) (f11 : ((s[0].toNat : Int) == 123) = false) (f12 : ((s[0].toNat : Int) == 125) = false) (f13 : ((s[0].toNat : Int) == 91) = false) (f14 : ((s[0].toNat : Int) == 93) = false) (f15 : ((s[0].toNat : Int) == 44) = true) : Calls Tryz.prog 135 #[.string s] w fun e w' => e = .returned (.int .i64 1) ∧ w = w' := by
 have h2 : ¬ (1 : Int) < s.size := by omega
 go_enter Tryz.func135, Tryz.ntmps135
 go_wp2
 go_ret
 exact ⟨rfl, rfl⟩
theorem T8 (s X : ByteArray) (w : World) (h0 : 0 < s.size) (h1 : 1 < s.size) (hX : s.extract 0 2 = X) (e0 : (X.toList == [38, 38]) = false) (e1 : (X.toList == [124, 124]) = false) (e2 : (X.toList == [61, 61]) = false) (e3 : (X.toList == [33, 61]) = false) (e4 : (X.toList == [60, 61]) = false) (e5 : (X.toList == [62, 61]) = false) (f0 : ((s[0].toNat : Int) == 43) = false) (f1 : ((s[0].toNat : Int) == 45) = false) (f2 : ((s[0].toNat : Int) == 42) = false) (f3 : ((s[0].toNat : Int) == 47) = false) (f4 : ((s[0].toNat : Int) == 37) = false) (f5 : ((s[0].toNat : Int) == 60) = false) (f6 : ((s[0].toNat : Int) == 62) = false) (f7 : ((s[0].toNat : Int) == 33) = false) (f8 : ((s[0].toNat : Int) == 61) = false) (f9 : ((s[0].toNat : Int) == 40) = false) (f10 : ((s[0].toNat : Int) == 41) = false) (f11 : ((s[0].toNat : Int) == 123) = false) (f12 : ((s[0].toNat : Int) == 125) = false) (f13 : ((s[0].toNat : Int) == 91) = false) (f14 : ((s[0].toNat : Int) == 93) = false) (f15 : ((s[0].toNat : Int) == 44) = true) : Calls Tryz.prog 135 #[.string s] w fun e w' => e = .returned (.int .i64 1) ∧ w = w' := by
 have h2 : (2 : Int) ≤ s.size := by omega
 have h3 : 2 ≤ s.size := by omega
 go_enter Tryz.func135, Tryz.ntmps135
 go_wp2
 go_ret
 exact ⟨rfl, rfl⟩
theorem T7 (s X : ByteArray) (w : World) (h0 : 0 < s.size) (h1 : ¬ 1 < s.size) (f0 : ((s[0].toNat : Int) == 43) = false) (f1 : ((s[0].toNat : Int) == 45) = false) (f2 : ((s[0].toNat : Int) == 42) = false) (f3 : ((s[0].toNat : Int) == 47) = false) (f4 : ((s[0].toNat : Int) == 37) = false) (f5 : ((s[0].toNat : Int) == 60) = false) (f6 : ((s[0].toNat : Int) == 62) = false) (f7 : ((s[0].toNat : Int) == 33) = false) (f8 : ((s[0].toNat : Int) == 61) = false) (f9 : ((s[0].toNat : Int) == 40) = false) (f10 : ((s[0].toNat : Int) == 41) = false) (f11 : ((s[0].toNat : Int) == 123) = false) (f12 : ((s[0].toNat : Int) == 125) = false) (f13 : ((s[0].toNat : Int) == 91) = false) (f14 : ((s[0].toNat : Int) == 93) = false) (f15 : ((s[0].toNat : Int) == 44) = false) (f16 : ((s[0].toNat : Int) == 59) = true) : Calls Tryz.prog 135 #[.string s] w fun e w' => e = .returned (.int .i64 1) ∧ w = w' := by
 have h2 : ¬ (1 : Int) < s.size := by omega
 go_enter Tryz.func135, Tryz.ntmps135
 go_wp2
 go_ret
 exact ⟨rfl, rfl⟩
theorem T6 (s X : ByteArray) (w : World) (h0 : 0 < s.size) (h1 : 1 < s.size) (hX : s.extract 0 2 = X) (e0 : (X.toList == [38, 38]) = false) (e1 : (X.toList == [124, 124]) = false) (e2 : (X.toList == [61, 61]) = false) (e3 : (X.toList == [33, 61]) = false) (e4 : (X.toList == [60, 61]) = false) (e5 : (X.toList == [62, 61]) = false) (f0 : ((s[0].toNat : Int) == 43) = false) (f1 : ((s[0].toNat : Int) == 45) = false) (f2 : ((s[0].toNat : Int) == 42) = false) (f3 : ((s[0].toNat : Int) == 47) = false) (f4 : ((s[0].toNat : Int) == 37) = false) (f5 : ((s[0].toNat : Int) == 60) = false) (f6 : ((s[0].toNat : Int) == 62) = false) (f7 : ((s[0].toNat : Int) == 33) = false) (f8 : ((s[0].toNat : Int) == 61) = false) (f9 : ((s[0].toNat : Int) == 40) = false) (f10 : ((s[0].toNat : Int) == 41) = false) (f11 : ((s[0].toNat : Int) == 123) = false) (f12 : ((s[0].toNat : Int) == 125) = false) (f13 : ((s[0].toNat : Int) == 91) = false) (f14 : ((s[0].toNat : Int) == 93) = false) (f15 : ((s[0].toNat : Int) == 44) = false) (f16 : ((s[0].toNat : Int) == 59) = true) : Calls Tryz.prog 135 #[.string s] w fun e w' => e = .returned (.int .i64 1) ∧ w = w' := by
 have h2 : (2 : Int) ≤ s.size := by omega
 have h3 : 2 ≤ s.size := by omega
 go_enter Tryz.func135, Tryz.ntmps135
 go_wp2
 go_ret
 exact ⟨rfl, rfl⟩
theorem T5 (s X : ByteArray) (w : World) (h0 : 0 < s.size) (h1 : ¬ 1 < s.size) (f0 : ((s[0].toNat : Int) == 43) = false) (f1 : ((s[0].toNat : Int) == 45) = false) (f2 : ((s[0].toNat : Int) == 42) = false) (f3 : ((s[0].toNat : Int) == 47) = false) (f4 : ((s[0].toNat : Int) == 37) = false) (f5 : ((s[0].toNat : Int) == 60) = false) (f6 : ((s[0].toNat : Int) == 62) = false) (f7 : ((s[0].toNat : Int) == 33) = false) (f8 : ((s[0].toNat : Int) == 61) = false) (f9 : ((s[0].toNat : Int) == 40) = false) (f10 : ((s[0].toNat : Int) == 41) = false) (f11 : ((s[0].toNat : Int) == 123) = false) (f12 : ((s[0].toNat : Int) == 125) = false) (f13 : ((s[0].toNat : Int) == 91) = false) (f14 : ((s[0].toNat : Int) == 93) = false) (f15 : ((s[0].toNat : Int) == 44) = false) (f16 : ((s[0].toNat : Int) == 59) = false) (f17 : ((s[0].toNat : Int) == 58) = true) : Calls Tryz.prog 135 #[.string s] w fun e w' => e = .returned (.int .i64 1) ∧ w = w' := by
 have h2 : ¬ (1 : Int) < s.size := by omega
 go_enter Tryz.func135, Tryz.ntmps135
 go_wp2
 go_ret
 exact ⟨rfl, rfl⟩
theorem T4 (s X : ByteArray) (w : World) (h0 : 0 < s.size) (h1 : 1 < s.size) (hX : s.extract 0 2 = X) (e0 : (X.toList == [38, 38]) = false) (e1 : (X.toList == [124, 124]) = false) (e2 : (X.toList == [61, 61]) = false) (e3 : (X.toList == [33, 61]) = false) (e4 : (X.toList == [60, 61]) = false) (e5 : (X.toList == [62, 61]) = false) (f0 : ((s[0].toNat : Int) == 43) = false) (f1 : ((s[0].toNat : Int) == 45) = false) (f2 : ((s[0].toNat : Int) == 42) = false) (f3 : ((s[0].toNat : Int) == 47) = false) (f4 : ((s[0].toNat : Int) == 37) = false) (f5 : ((s[0].toNat : Int) == 60) = false) (f6 : ((s[0].toNat : Int) == 62) = false) (f7 : ((s[0].toNat : Int) == 33) = false) (f8 : ((s[0].toNat : Int) == 61) = false) (f9 : ((s[0].toNat : Int) == 40) = false) (f10 : ((s[0].toNat : Int) == 41) = false) (f11 : ((s[0].toNat : Int) == 123) = false) (f12 : ((s[0].toNat : Int) == 125) = false) (f13 : ((s[0].toNat : Int) == 91) = false) (f14 : ((s[0].toNat : Int) == 93) = false) (f15 : ((s[0].toNat : Int) == 44) = false) (f16 : ((s[0].toNat : Int) == 59) = false) (f17 : ((s[0].toNat : Int) == 58) = true) : Calls Tryz.prog 135 #[.string s] w fun e w' => e = .returned (.int .i64 1) ∧ w = w' := by
 have h2 : (2 : Int) ≤ s.size := by omega
 have h3 : 2 ≤ s.size := by omega
 go_enter Tryz.func135, Tryz.ntmps135
 go_wp2
 go_ret
 exact ⟨rfl, rfl⟩
theorem T3 (s X : ByteArray) (w : World) (h0 : 0 < s.size) (h1 : ¬ 1 < s.size) (f0 : ((s[0].toNat : Int) == 43) = false) (f1 : ((s[0].toNat : Int) == 45) = false) (f2 : ((s[0].toNat : Int) == 42) = false) (f3 : ((s[0].toNat : Int) == 47) = false) (f4 : ((s[0].toNat : Int) == 37) = false) (f5 : ((s[0].toNat : Int) == 60) = false) (f6 : ((s[0].toNat : Int) == 62) = false) (f7 : ((s[0].toNat : Int) == 33) = false) (f8 : ((s[0].toNat : Int) == 61) = false) (f9 : ((s[0].toNat : Int) == 40) = false) (f10 : ((s[0].toNat : Int) == 41) = false) (f11 : ((s[0].toNat : Int) == 123) = false) (f12 : ((s[0].toNat : Int) == 125) = false) (f13 : ((s[0].toNat : Int) == 91) = false) (f14 : ((s[0].toNat : Int) == 93) = false) (f15 : ((s[0].toNat : Int) == 44) = false) (f16 : ((s[0].toNat : Int) == 59) = false) (f17 : ((s[0].toNat : Int) == 58) = false) (f18 : ((s[0].toNat : Int) == 46) = true) : Calls Tryz.prog 135 #[.string s] w fun e w' => e = .returned (.int .i64 1) ∧ w = w' := by
 have h2 : ¬ (1 : Int) < s.size := by omega
 go_enter Tryz.func135, Tryz.ntmps135
 go_wp2
 go_ret
 exact ⟨rfl, rfl⟩
theorem T2 (s X : ByteArray) (w : World) (h0 : 0 < s.size) (h1 : 1 < s.size) (hX : s.extract 0 2 = X) (e0 : (X.toList == [38, 38]) = false) (e1 : (X.toList == [124, 124]) = false) (e2 : (X.toList == [61, 61]) = false) (e3 : (X.toList == [33, 61]) = false) (e4 : (X.toList == [60, 61]) = false) (e5 : (X.toList == [62, 61]) = false) (f0 : ((s[0].toNat : Int) == 43) = false) (f1 : ((s[0].toNat : Int) == 45) = false) (f2 : ((s[0].toNat : Int) == 42) = false) (f3 : ((s[0].toNat : Int) == 47) = false) (f4 : ((s[0].toNat : Int) == 37) = false) (f5 : ((s[0].toNat : Int) == 60) = false) (f6 : ((s[0].toNat : Int) == 62) = false) (f7 : ((s[0].toNat : Int) == 33) = false) (f8 : ((s[0].toNat : Int) == 61) = false) (f9 : ((s[0].toNat : Int) == 40) = false) (f10 : ((s[0].toNat : Int) == 41) = false) (f11 : ((s[0].toNat : Int) == 123) = false) (f12 : ((s[0].toNat : Int) == 125) = false) (f13 : ((s[0].toNat : Int) == 91) = false) (f14 : ((s[0].toNat : Int) == 93) = false) (f15 : ((s[0].toNat : Int) == 44) = false) (f16 : ((s[0].toNat : Int) == 59) = false) (f17 : ((s[0].toNat : Int) == 58) = false) (f18 : ((s[0].toNat : Int) == 46) = true) : Calls Tryz.prog 135 #[.string s] w fun e w' => e = .returned (.int .i64 1) ∧ w = w' := by
 have h2 : (2 : Int) ≤ s.size := by omega
 have h3 : 2 ≤ s.size := by omega
 go_enter Tryz.func135, Tryz.ntmps135
 go_wp2
 go_ret
 exact ⟨rfl, rfl⟩
theorem T1 (s X : ByteArray) (w : World) (h0 : 0 < s.size) (h1 : ¬ 1 < s.size) (f0 : ((s[0].toNat : Int) == 43) = false) (f1 : ((s[0].toNat : Int) == 45) = false) (f2 : ((s[0].toNat : Int) == 42) = false) (f3 : ((s[0].toNat : Int) == 47) = false) (f4 : ((s[0].toNat : Int) == 37) = false) (f5 : ((s[0].toNat : Int) == 60) = false) (f6 : ((s[0].toNat : Int) == 62) = false) (f7 : ((s[0].toNat : Int) == 33) = false) (f8 : ((s[0].toNat : Int) == 61) = false) (f9 : ((s[0].toNat : Int) == 40) = false) (f10 : ((s[0].toNat : Int) == 41) = false) (f11 : ((s[0].toNat : Int) == 123) = false) (f12 : ((s[0].toNat : Int) == 125) = false) (f13 : ((s[0].toNat : Int) == 91) = false) (f14 : ((s[0].toNat : Int) == 93) = false) (f15 : ((s[0].toNat : Int) == 44) = false) (f16 : ((s[0].toNat : Int) == 59) = false) (f17 : ((s[0].toNat : Int) == 58) = false) (f18 : ((s[0].toNat : Int) == 46) = false) : Calls Tryz.prog 135 #[.string s] w fun e w' => e = .returned (.int .i64 0) ∧ w = w' := by
 have h2 : ¬ (1 : Int) < s.size := by omega
 go_enter Tryz.func135, Tryz.ntmps135
 go_wp2
 go_ret
 exact ⟨rfl, rfl⟩
theorem Tz (s X : ByteArray) (w : World) (h0 : 0 < s.size) (h1 : 1 < s.size) (hX : s.extract 0 2 = X) (e0 : (X.toList == [38, 38]) = false) (e1 : (X.toList == [124, 124]) = false) (e2 : (X.toList == [61, 61]) = false) (e3 : (X.toList == [33, 61]) = false) (e4 : (X.toList == [60, 61]) = false) (e5 : (X.toList == [62, 61]) = false) (f0 : ((s[0].toNat : Int) == 43) = false) (f1 : ((s[0].toNat : Int) == 45) = false) (f2 : ((s[0].toNat : Int) == 42) = false) (f3 : ((s[0].toNat : Int) == 47) = false) (f4 : ((s[0].toNat : Int) == 37) = false) (f5 : ((s[0].toNat : Int) == 60) = false) (f6 : ((s[0].toNat : Int) == 62) = false) (f7 : ((s[0].toNat : Int) == 33) = false) (f8 : ((s[0].toNat : Int) == 61) = false) (f9 : ((s[0].toNat : Int) == 40) = false) (f10 : ((s[0].toNat : Int) == 41) = false) (f11 : ((s[0].toNat : Int) == 123) = false) (f12 : ((s[0].toNat : Int) == 125) = false) (f13 : ((s[0].toNat : Int) == 91) = false) (f14 : ((s[0].toNat : Int) == 93) = false) (f15 : ((s[0].toNat : Int) == 44) = false) (f16 : ((s[0].toNat : Int) == 59) = false) (f17 : ((s[0].toNat : Int) == 58) = false) (f18 : ((s[0].toNat : Int) == 46) = false) : Calls Tryz.prog 135 #[.string s] w fun e w' => e = .returned (.int .i64 0) ∧ w = w' := by
 have h2 : (2 : Int) ≤ s.size := by omega
 have h3 : 2 ≤ s.size := by omega
 go_enter Tryz.func135, Tryz.ntmps135
 go_wp2
 go_ret
 exact ⟨rfl, rfl⟩
theorem Gn {l : List UInt8} (h : l.take 2 ∈ Hy) : sgn l = 2 := by rw [sgn, if_pos h]
theorem Av {l : List UInt8} (h : ¬ l.take 2 ∈ Hy) (h2 : l.headD 0 ∈ Mc) : sgn l = 1 := by rw [sgn, if_neg h, if_pos h2]
theorem Oj {l : List UInt8} (h : ¬ l.take 2 ∈ Hy) (h2 : ¬ l.headD 0 ∈ Mc) : sgn l = 0 := by rw [sgn, if_neg h, if_neg h2]
theorem L2 {s : ByteArray} {l : List UInt8} (h : s.data.toList = l) : (s.toList == l) = true := by rw [ByteArray.toList_eq, h]; simp
theorem L3 {l : List UInt8} (h : ¬ 1 < l.length) : ¬ l.take 2 ∈ Hy := by
 intro hm
 have h6 : ∀ x ∈ Hy, x.length = 2 := by decide
 have := h6 _ hm
 rw [List.length_take] at this; omega
theorem Je (s : ByteArray) (w : World) (h0 : 0 < s.size) : Calls Tryz.prog 135 #[.string s] w fun e w' => e = .returned (.int .i64 (sgn s.data.toList : Nat)) ∧ w = w' := by
 have hhd := B9 s h0
 by_cases h1 : 1 < s.size
 ·have hX : (s.extract 0 2).data.toList = s.data.toList.take 2 := by rw [De]; simp
  by_cases h0x : s.data.toList.take 2 = [38, 38]
  ·rw [Gn (by rw [h0x]; decide)]
   exact a6n s _ w h1 rfl  (L2 (by rw [hX]; exact h0x))
  by_cases h1x : s.data.toList.take 2 = [124, 124]
  ·rw [Gn (by rw [h1x]; decide)]
   exact a6m s _ w h1 rfl (Af (by rw [hX]; exact h0x)) (L2 (by rw [hX]; exact h1x))
  by_cases h2x : s.data.toList.take 2 = [61, 61]
  ·rw [Gn (by rw [h2x]; decide)]
   exact a6l s _ w h1 rfl (Af (by rw [hX]; exact h0x)) (Af (by rw [hX]; exact h1x)) (L2 (by rw [hX]; exact h2x))
  by_cases h3x : s.data.toList.take 2 = [33, 61]
  ·rw [Gn (by rw [h3x]; decide)]
   exact a6k s _ w h1 rfl (Af (by rw [hX]; exact h0x)) (Af (by rw [hX]; exact h1x)) (Af (by rw [hX]; exact h2x)) (L2 (by rw [hX]; exact h3x))
  by_cases h4x : s.data.toList.take 2 = [60, 61]
  ·rw [Gn (by rw [h4x]; decide)]
   exact a6j s _ w h1 rfl (Af (by rw [hX]; exact h0x)) (Af (by rw [hX]; exact h1x)) (Af (by rw [hX]; exact h2x)) (Af (by rw [hX]; exact h3x)) (L2 (by rw [hX]; exact h4x))
  by_cases h5x : s.data.toList.take 2 = [62, 61]
  ·rw [Gn (by rw [h5x]; decide)]
   exact a6i s _ w h1 rfl (Af (by rw [hX]; exact h0x)) (Af (by rw [hX]; exact h1x)) (Af (by rw [hX]; exact h2x)) (Af (by rw [hX]; exact h3x)) (Af (by rw [hX]; exact h4x)) (L2 (by rw [hX]; exact h5x))
  have hno : ¬ s.data.toList.take 2 ∈ Hy := by simp [Hy, h0x, h1x, h2x, h3x, h4x, h5x]
  by_cases g0 : s[0] = 43
  ·rw [Av hno (by rw [hhd, g0]; decide)]
   exact Xl s _ w h0 h1 rfl (Af (by rw [hX]; exact h0x)) (Af (by rw [hX]; exact h1x)) (Af (by rw [hX]; exact h2x)) (Af (by rw [hX]; exact h3x)) (Af (by rw [hX]; exact h4x)) (Af (by rw [hX]; exact h5x))  (by rw [g0]; rfl)
  by_cases g1 : s[0] = 45
  ·rw [Av hno (by rw [hhd, g1]; decide)]
   exact Xj s _ w h0 h1 rfl (Af (by rw [hX]; exact h0x)) (Af (by rw [hX]; exact h1x)) (Af (by rw [hX]; exact h2x)) (Af (by rw [hX]; exact h3x)) (Af (by rw [hX]; exact h4x)) (Af (by rw [hX]; exact h5x)) (Ac (n := 43) (by decide) g0) (by rw [g1]; rfl)
  by_cases g2 : s[0] = 42
  ·rw [Av hno (by rw [hhd, g2]; decide)]
   exact Xh s _ w h0 h1 rfl (Af (by rw [hX]; exact h0x)) (Af (by rw [hX]; exact h1x)) (Af (by rw [hX]; exact h2x)) (Af (by rw [hX]; exact h3x)) (Af (by rw [hX]; exact h4x)) (Af (by rw [hX]; exact h5x)) (Ac (n := 43) (by decide) g0) (Ac (n := 45) (by decide) g1) (by rw [g2]; rfl)
  by_cases g3 : s[0] = 47
  ·rw [Av hno (by rw [hhd, g3]; decide)]
   exact Xf s _ w h0 h1 rfl (Af (by rw [hX]; exact h0x)) (Af (by rw [hX]; exact h1x)) (Af (by rw [hX]; exact h2x)) (Af (by rw [hX]; exact h3x)) (Af (by rw [hX]; exact h4x)) (Af (by rw [hX]; exact h5x)) (Ac (n := 43) (by decide) g0) (Ac (n := 45) (by decide) g1) (Ac (n := 42) (by decide) g2) (by rw [g3]; rfl)
  by_cases g4 : s[0] = 37
  ·rw [Av hno (by rw [hhd, g4]; decide)]
   exact Xd s _ w h0 h1 rfl (Af (by rw [hX]; exact h0x)) (Af (by rw [hX]; exact h1x)) (Af (by rw [hX]; exact h2x)) (Af (by rw [hX]; exact h3x)) (Af (by rw [hX]; exact h4x)) (Af (by rw [hX]; exact h5x)) (Ac (n := 43) (by decide) g0) (Ac (n := 45) (by decide) g1) (Ac (n := 42) (by decide) g2) (Ac (n := 47) (by decide) g3) (by rw [g4]; rfl)
  by_cases g5 : s[0] = 60
  ·rw [Av hno (by rw [hhd, g5]; decide)]
   exact Xb s _ w h0 h1 rfl (Af (by rw [hX]; exact h0x)) (Af (by rw [hX]; exact h1x)) (Af (by rw [hX]; exact h2x)) (Af (by rw [hX]; exact h3x)) (Af (by rw [hX]; exact h4x)) (Af (by rw [hX]; exact h5x)) (Ac (n := 43) (by decide) g0) (Ac (n := 45) (by decide) g1) (Ac (n := 42) (by decide) g2) (Ac (n := 47) (by decide) g3) (Ac (n := 37) (by decide) g4) (by rw [g5]; rfl)
  by_cases g6 : s[0] = 62
  ·rw [Av hno (by rw [hhd, g6]; decide)]
   exact W9 s _ w h0 h1 rfl (Af (by rw [hX]; exact h0x)) (Af (by rw [hX]; exact h1x)) (Af (by rw [hX]; exact h2x)) (Af (by rw [hX]; exact h3x)) (Af (by rw [hX]; exact h4x)) (Af (by rw [hX]; exact h5x)) (Ac (n := 43) (by decide) g0) (Ac (n := 45) (by decide) g1) (Ac (n := 42) (by decide) g2) (Ac (n := 47) (by decide) g3) (Ac (n := 37) (by decide) g4) (Ac (n := 60) (by decide) g5) (by rw [g6]; rfl)
  by_cases g7 : s[0] = 33
  ·rw [Av hno (by rw [hhd, g7]; decide)]
   exact W7 s _ w h0 h1 rfl (Af (by rw [hX]; exact h0x)) (Af (by rw [hX]; exact h1x)) (Af (by rw [hX]; exact h2x)) (Af (by rw [hX]; exact h3x)) (Af (by rw [hX]; exact h4x)) (Af (by rw [hX]; exact h5x)) (Ac (n := 43) (by decide) g0) (Ac (n := 45) (by decide) g1) (Ac (n := 42) (by decide) g2) (Ac (n := 47) (by decide) g3) (Ac (n := 37) (by decide) g4) (Ac (n := 60) (by decide) g5) (Ac (n := 62) (by decide) g6) (by rw [g7]; rfl)
  by_cases g8 : s[0] = 61
  ·rw [Av hno (by rw [hhd, g8]; decide)]
   exact W5 s _ w h0 h1 rfl (Af (by rw [hX]; exact h0x)) (Af (by rw [hX]; exact h1x)) (Af (by rw [hX]; exact h2x)) (Af (by rw [hX]; exact h3x)) (Af (by rw [hX]; exact h4x)) (Af (by rw [hX]; exact h5x)) (Ac (n := 43) (by decide) g0) (Ac (n := 45) (by decide) g1) (Ac (n := 42) (by decide) g2) (Ac (n := 47) (by decide) g3) (Ac (n := 37) (by decide) g4) (Ac (n := 60) (by decide) g5) (Ac (n := 62) (by decide) g6) (Ac (n := 33) (by decide) g7) (by rw [g8]; rfl)
  by_cases g9 : s[0] = 40
  ·rw [Av hno (by rw [hhd, g9]; decide)]
   exact W0 s _ w h0 h1 rfl (Af (by rw [hX]; exact h0x)) (Af (by rw [hX]; exact h1x)) (Af (by rw [hX]; exact h2x)) (Af (by rw [hX]; exact h3x)) (Af (by rw [hX]; exact h4x)) (Af (by rw [hX]; exact h5x)) (Ac (n := 43) (by decide) g0) (Ac (n := 45) (by decide) g1) (Ac (n := 42) (by decide) g2) (Ac (n := 47) (by decide) g3) (Ac (n := 37) (by decide) g4) (Ac (n := 60) (by decide) g5) (Ac (n := 62) (by decide) g6) (Ac (n := 33) (by decide) g7) (Ac (n := 61) (by decide) g8) (by rw [g9]; rfl)
  by_cases g10 : s[0] = 41
  ·rw [Av hno (by rw [hhd, g10]; decide)]
   exact Ui s _ w h0 h1 rfl (Af (by rw [hX]; exact h0x)) (Af (by rw [hX]; exact h1x)) (Af (by rw [hX]; exact h2x)) (Af (by rw [hX]; exact h3x)) (Af (by rw [hX]; exact h4x)) (Af (by rw [hX]; exact h5x)) (Ac (n := 43) (by decide) g0) (Ac (n := 45) (by decide) g1) (Ac (n := 42) (by decide) g2) (Ac (n := 47) (by decide) g3) (Ac (n := 37) (by decide) g4) (Ac (n := 60) (by decide) g5) (Ac (n := 62) (by decide) g6) (Ac (n := 33) (by decide) g7) (Ac (n := 61) (by decide) g8) (Ac (n := 40) (by decide) g9) (by rw [g10]; rfl)
  by_cases g11 : s[0] = 123
  ·rw [Av hno (by rw [hhd, g11]; decide)]
   exact Ug s _ w h0 h1 rfl (Af (by rw [hX]; exact h0x)) (Af (by rw [hX]; exact h1x)) (Af (by rw [hX]; exact h2x)) (Af (by rw [hX]; exact h3x)) (Af (by rw [hX]; exact h4x)) (Af (by rw [hX]; exact h5x)) (Ac (n := 43) (by decide) g0) (Ac (n := 45) (by decide) g1) (Ac (n := 42) (by decide) g2) (Ac (n := 47) (by decide) g3) (Ac (n := 37) (by decide) g4) (Ac (n := 60) (by decide) g5) (Ac (n := 62) (by decide) g6) (Ac (n := 33) (by decide) g7) (Ac (n := 61) (by decide) g8) (Ac (n := 40) (by decide) g9) (Ac (n := 41) (by decide) g10) (by rw [g11]; rfl)
  by_cases g12 : s[0] = 125
  ·rw [Av hno (by rw [hhd, g12]; decide)]
   exact Ue s _ w h0 h1 rfl (Af (by rw [hX]; exact h0x)) (Af (by rw [hX]; exact h1x)) (Af (by rw [hX]; exact h2x)) (Af (by rw [hX]; exact h3x)) (Af (by rw [hX]; exact h4x)) (Af (by rw [hX]; exact h5x)) (Ac (n := 43) (by decide) g0) (Ac (n := 45) (by decide) g1) (Ac (n := 42) (by decide) g2) (Ac (n := 47) (by decide) g3) (Ac (n := 37) (by decide) g4) (Ac (n := 60) (by decide) g5) (Ac (n := 62) (by decide) g6) (Ac (n := 33) (by decide) g7) (Ac (n := 61) (by decide) g8) (Ac (n := 40) (by decide) g9) (Ac (n := 41) (by decide) g10) (Ac (n := 123) (by decide) g11) (by rw [g12]; rfl)
  by_cases g13 : s[0] = 91
  ·rw [Av hno (by rw [hhd, g13]; decide)]
   exact Uc s _ w h0 h1 rfl (Af (by rw [hX]; exact h0x)) (Af (by rw [hX]; exact h1x)) (Af (by rw [hX]; exact h2x)) (Af (by rw [hX]; exact h3x)) (Af (by rw [hX]; exact h4x)) (Af (by rw [hX]; exact h5x)) (Ac (n := 43) (by decide) g0) (Ac (n := 45) (by decide) g1) (Ac (n := 42) (by decide) g2) (Ac (n := 47) (by decide) g3) (Ac (n := 37) (by decide) g4) (Ac (n := 60) (by decide) g5) (Ac (n := 62) (by decide) g6) (Ac (n := 33) (by decide) g7) (Ac (n := 61) (by decide) g8) (Ac (n := 40) (by decide) g9) (Ac (n := 41) (by decide) g10) (Ac (n := 123) (by decide) g11) (Ac (n := 125) (by decide) g12) (by rw [g13]; rfl)
  by_cases g14 : s[0] = 93
  ·rw [Av hno (by rw [hhd, g14]; decide)]
   exact Ua s _ w h0 h1 rfl (Af (by rw [hX]; exact h0x)) (Af (by rw [hX]; exact h1x)) (Af (by rw [hX]; exact h2x)) (Af (by rw [hX]; exact h3x)) (Af (by rw [hX]; exact h4x)) (Af (by rw [hX]; exact h5x)) (Ac (n := 43) (by decide) g0) (Ac (n := 45) (by decide) g1) (Ac (n := 42) (by decide) g2) (Ac (n := 47) (by decide) g3) (Ac (n := 37) (by decide) g4) (Ac (n := 60) (by decide) g5) (Ac (n := 62) (by decide) g6) (Ac (n := 33) (by decide) g7) (Ac (n := 61) (by decide) g8) (Ac (n := 40) (by decide) g9) (Ac (n := 41) (by decide) g10) (Ac (n := 123) (by decide) g11) (Ac (n := 125) (by decide) g12) (Ac (n := 91) (by decide) g13) (by rw [g14]; rfl)
  by_cases g15 : s[0] = 44
  ·rw [Av hno (by rw [hhd, g15]; decide)]
   exact T8 s _ w h0 h1 rfl (Af (by rw [hX]; exact h0x)) (Af (by rw [hX]; exact h1x)) (Af (by rw [hX]; exact h2x)) (Af (by rw [hX]; exact h3x)) (Af (by rw [hX]; exact h4x)) (Af (by rw [hX]; exact h5x)) (Ac (n := 43) (by decide) g0) (Ac (n := 45) (by decide) g1) (Ac (n := 42) (by decide) g2) (Ac (n := 47) (by decide) g3) (Ac (n := 37) (by decide) g4) (Ac (n := 60) (by decide) g5) (Ac (n := 62) (by decide) g6) (Ac (n := 33) (by decide) g7) (Ac (n := 61) (by decide) g8) (Ac (n := 40) (by decide) g9) (Ac (n := 41) (by decide) g10) (Ac (n := 123) (by decide) g11) (Ac (n := 125) (by decide) g12) (Ac (n := 91) (by decide) g13) (Ac (n := 93) (by decide) g14) (by rw [g15]; rfl)
  by_cases g16 : s[0] = 59
  ·rw [Av hno (by rw [hhd, g16]; decide)]
   exact T6 s _ w h0 h1 rfl (Af (by rw [hX]; exact h0x)) (Af (by rw [hX]; exact h1x)) (Af (by rw [hX]; exact h2x)) (Af (by rw [hX]; exact h3x)) (Af (by rw [hX]; exact h4x)) (Af (by rw [hX]; exact h5x)) (Ac (n := 43) (by decide) g0) (Ac (n := 45) (by decide) g1) (Ac (n := 42) (by decide) g2) (Ac (n := 47) (by decide) g3) (Ac (n := 37) (by decide) g4) (Ac (n := 60) (by decide) g5) (Ac (n := 62) (by decide) g6) (Ac (n := 33) (by decide) g7) (Ac (n := 61) (by decide) g8) (Ac (n := 40) (by decide) g9) (Ac (n := 41) (by decide) g10) (Ac (n := 123) (by decide) g11) (Ac (n := 125) (by decide) g12) (Ac (n := 91) (by decide) g13) (Ac (n := 93) (by decide) g14) (Ac (n := 44) (by decide) g15) (by rw [g16]; rfl)
  by_cases g17 : s[0] = 58
  ·rw [Av hno (by rw [hhd, g17]; decide)]
   exact T4 s _ w h0 h1 rfl (Af (by rw [hX]; exact h0x)) (Af (by rw [hX]; exact h1x)) (Af (by rw [hX]; exact h2x)) (Af (by rw [hX]; exact h3x)) (Af (by rw [hX]; exact h4x)) (Af (by rw [hX]; exact h5x)) (Ac (n := 43) (by decide) g0) (Ac (n := 45) (by decide) g1) (Ac (n := 42) (by decide) g2) (Ac (n := 47) (by decide) g3) (Ac (n := 37) (by decide) g4) (Ac (n := 60) (by decide) g5) (Ac (n := 62) (by decide) g6) (Ac (n := 33) (by decide) g7) (Ac (n := 61) (by decide) g8) (Ac (n := 40) (by decide) g9) (Ac (n := 41) (by decide) g10) (Ac (n := 123) (by decide) g11) (Ac (n := 125) (by decide) g12) (Ac (n := 91) (by decide) g13) (Ac (n := 93) (by decide) g14) (Ac (n := 44) (by decide) g15) (Ac (n := 59) (by decide) g16) (by rw [g17]; rfl)
  by_cases g18 : s[0] = 46
  ·rw [Av hno (by rw [hhd, g18]; decide)]
   exact T2 s _ w h0 h1 rfl (Af (by rw [hX]; exact h0x)) (Af (by rw [hX]; exact h1x)) (Af (by rw [hX]; exact h2x)) (Af (by rw [hX]; exact h3x)) (Af (by rw [hX]; exact h4x)) (Af (by rw [hX]; exact h5x)) (Ac (n := 43) (by decide) g0) (Ac (n := 45) (by decide) g1) (Ac (n := 42) (by decide) g2) (Ac (n := 47) (by decide) g3) (Ac (n := 37) (by decide) g4) (Ac (n := 60) (by decide) g5) (Ac (n := 62) (by decide) g6) (Ac (n := 33) (by decide) g7) (Ac (n := 61) (by decide) g8) (Ac (n := 40) (by decide) g9) (Ac (n := 41) (by decide) g10) (Ac (n := 123) (by decide) g11) (Ac (n := 125) (by decide) g12) (Ac (n := 91) (by decide) g13) (Ac (n := 93) (by decide) g14) (Ac (n := 44) (by decide) g15) (Ac (n := 59) (by decide) g16) (Ac (n := 58) (by decide) g17) (by rw [g18]; rfl)
  rw [Oj hno (by rw [hhd]; simp [Mc, g0, g1, g2, g3, g4, g5, g6, g7, g8, g9, g10, g11, g12, g13, g14, g15, g16, g17, g18])]
  exact Tz s _ w h0 h1 rfl (Af (by rw [hX]; exact h0x)) (Af (by rw [hX]; exact h1x)) (Af (by rw [hX]; exact h2x)) (Af (by rw [hX]; exact h3x)) (Af (by rw [hX]; exact h4x)) (Af (by rw [hX]; exact h5x)) (Ac (n := 43) (by decide) g0) (Ac (n := 45) (by decide) g1) (Ac (n := 42) (by decide) g2) (Ac (n := 47) (by decide) g3) (Ac (n := 37) (by decide) g4) (Ac (n := 60) (by decide) g5) (Ac (n := 62) (by decide) g6) (Ac (n := 33) (by decide) g7) (Ac (n := 61) (by decide) g8) (Ac (n := 40) (by decide) g9) (Ac (n := 41) (by decide) g10) (Ac (n := 123) (by decide) g11) (Ac (n := 125) (by decide) g12) (Ac (n := 91) (by decide) g13) (Ac (n := 93) (by decide) g14) (Ac (n := 44) (by decide) g15) (Ac (n := 59) (by decide) g16) (Ac (n := 58) (by decide) g17) (Ac (n := 46) (by decide) g18)
 ·have hno : ¬ s.data.toList.take 2 ∈ Hy := L3 (by rw [Ae]; exact h1)
  by_cases g0 : s[0] = 43
  ·rw [Av hno (by rw [hhd, g0]; decide)]
   exact Xm s ByteArray.empty w h0 h1  (by rw [g0]; rfl)
  by_cases g1 : s[0] = 45
  ·rw [Av hno (by rw [hhd, g1]; decide)]
   exact Xk s ByteArray.empty w h0 h1 (Ac (n := 43) (by decide) g0) (by rw [g1]; rfl)
  by_cases g2 : s[0] = 42
  ·rw [Av hno (by rw [hhd, g2]; decide)]
   exact Xi s ByteArray.empty w h0 h1 (Ac (n := 43) (by decide) g0) (Ac (n := 45) (by decide) g1) (by rw [g2]; rfl)
  by_cases g3 : s[0] = 47
  ·rw [Av hno (by rw [hhd, g3]; decide)]
   exact Xg s ByteArray.empty w h0 h1 (Ac (n := 43) (by decide) g0) (Ac (n := 45) (by decide) g1) (Ac (n := 42) (by decide) g2) (by rw [g3]; rfl)
  by_cases g4 : s[0] = 37
  ·rw [Av hno (by rw [hhd, g4]; decide)]
   exact Xe s ByteArray.empty w h0 h1 (Ac (n := 43) (by decide) g0) (Ac (n := 45) (by decide) g1) (Ac (n := 42) (by decide) g2) (Ac (n := 47) (by decide) g3) (by rw [g4]; rfl)
  by_cases g5 : s[0] = 60
  ·rw [Av hno (by rw [hhd, g5]; decide)]
   exact Xc s ByteArray.empty w h0 h1 (Ac (n := 43) (by decide) g0) (Ac (n := 45) (by decide) g1) (Ac (n := 42) (by decide) g2) (Ac (n := 47) (by decide) g3) (Ac (n := 37) (by decide) g4) (by rw [g5]; rfl)
  by_cases g6 : s[0] = 62
  ·rw [Av hno (by rw [hhd, g6]; decide)]
   exact Xa s ByteArray.empty w h0 h1 (Ac (n := 43) (by decide) g0) (Ac (n := 45) (by decide) g1) (Ac (n := 42) (by decide) g2) (Ac (n := 47) (by decide) g3) (Ac (n := 37) (by decide) g4) (Ac (n := 60) (by decide) g5) (by rw [g6]; rfl)
  by_cases g7 : s[0] = 33
  ·rw [Av hno (by rw [hhd, g7]; decide)]
   exact W8 s ByteArray.empty w h0 h1 (Ac (n := 43) (by decide) g0) (Ac (n := 45) (by decide) g1) (Ac (n := 42) (by decide) g2) (Ac (n := 47) (by decide) g3) (Ac (n := 37) (by decide) g4) (Ac (n := 60) (by decide) g5) (Ac (n := 62) (by decide) g6) (by rw [g7]; rfl)
  by_cases g8 : s[0] = 61
  ·rw [Av hno (by rw [hhd, g8]; decide)]
   exact W6 s ByteArray.empty w h0 h1 (Ac (n := 43) (by decide) g0) (Ac (n := 45) (by decide) g1) (Ac (n := 42) (by decide) g2) (Ac (n := 47) (by decide) g3) (Ac (n := 37) (by decide) g4) (Ac (n := 60) (by decide) g5) (Ac (n := 62) (by decide) g6) (Ac (n := 33) (by decide) g7) (by rw [g8]; rfl)
  by_cases g9 : s[0] = 40
  ·rw [Av hno (by rw [hhd, g9]; decide)]
   exact W4 s ByteArray.empty w h0 h1 (Ac (n := 43) (by decide) g0) (Ac (n := 45) (by decide) g1) (Ac (n := 42) (by decide) g2) (Ac (n := 47) (by decide) g3) (Ac (n := 37) (by decide) g4) (Ac (n := 60) (by decide) g5) (Ac (n := 62) (by decide) g6) (Ac (n := 33) (by decide) g7) (Ac (n := 61) (by decide) g8) (by rw [g9]; rfl)
  by_cases g10 : s[0] = 41
  ·rw [Av hno (by rw [hhd, g10]; decide)]
   exact Uj s ByteArray.empty w h0 h1 (Ac (n := 43) (by decide) g0) (Ac (n := 45) (by decide) g1) (Ac (n := 42) (by decide) g2) (Ac (n := 47) (by decide) g3) (Ac (n := 37) (by decide) g4) (Ac (n := 60) (by decide) g5) (Ac (n := 62) (by decide) g6) (Ac (n := 33) (by decide) g7) (Ac (n := 61) (by decide) g8) (Ac (n := 40) (by decide) g9) (by rw [g10]; rfl)
  by_cases g11 : s[0] = 123
  ·rw [Av hno (by rw [hhd, g11]; decide)]
   exact Uh s ByteArray.empty w h0 h1 (Ac (n := 43) (by decide) g0) (Ac (n := 45) (by decide) g1) (Ac (n := 42) (by decide) g2) (Ac (n := 47) (by decide) g3) (Ac (n := 37) (by decide) g4) (Ac (n := 60) (by decide) g5) (Ac (n := 62) (by decide) g6) (Ac (n := 33) (by decide) g7) (Ac (n := 61) (by decide) g8) (Ac (n := 40) (by decide) g9) (Ac (n := 41) (by decide) g10) (by rw [g11]; rfl)
  by_cases g12 : s[0] = 125
  ·rw [Av hno (by rw [hhd, g12]; decide)]
   exact Uf s ByteArray.empty w h0 h1 (Ac (n := 43) (by decide) g0) (Ac (n := 45) (by decide) g1) (Ac (n := 42) (by decide) g2) (Ac (n := 47) (by decide) g3) (Ac (n := 37) (by decide) g4) (Ac (n := 60) (by decide) g5) (Ac (n := 62) (by decide) g6) (Ac (n := 33) (by decide) g7) (Ac (n := 61) (by decide) g8) (Ac (n := 40) (by decide) g9) (Ac (n := 41) (by decide) g10) (Ac (n := 123) (by decide) g11) (by rw [g12]; rfl)
  by_cases g13 : s[0] = 91
  ·rw [Av hno (by rw [hhd, g13]; decide)]
   exact Ud s ByteArray.empty w h0 h1 (Ac (n := 43) (by decide) g0) (Ac (n := 45) (by decide) g1) (Ac (n := 42) (by decide) g2) (Ac (n := 47) (by decide) g3) (Ac (n := 37) (by decide) g4) (Ac (n := 60) (by decide) g5) (Ac (n := 62) (by decide) g6) (Ac (n := 33) (by decide) g7) (Ac (n := 61) (by decide) g8) (Ac (n := 40) (by decide) g9) (Ac (n := 41) (by decide) g10) (Ac (n := 123) (by decide) g11) (Ac (n := 125) (by decide) g12) (by rw [g13]; rfl)
  by_cases g14 : s[0] = 93
  ·rw [Av hno (by rw [hhd, g14]; decide)]
   exact Ub s ByteArray.empty w h0 h1 (Ac (n := 43) (by decide) g0) (Ac (n := 45) (by decide) g1) (Ac (n := 42) (by decide) g2) (Ac (n := 47) (by decide) g3) (Ac (n := 37) (by decide) g4) (Ac (n := 60) (by decide) g5) (Ac (n := 62) (by decide) g6) (Ac (n := 33) (by decide) g7) (Ac (n := 61) (by decide) g8) (Ac (n := 40) (by decide) g9) (Ac (n := 41) (by decide) g10) (Ac (n := 123) (by decide) g11) (Ac (n := 125) (by decide) g12) (Ac (n := 91) (by decide) g13) (by rw [g14]; rfl)
  by_cases g15 : s[0] = 44
  ·rw [Av hno (by rw [hhd, g15]; decide)]
   exact T9 s ByteArray.empty w h0 h1 (Ac (n := 43) (by decide) g0) (Ac (n := 45) (by decide) g1) (Ac (n := 42) (by decide) g2) (Ac (n := 47) (by decide) g3) (Ac (n := 37) (by decide) g4) (Ac (n := 60) (by decide) g5) (Ac (n := 62) (by decide) g6) (Ac (n := 33) (by decide) g7) (Ac (n := 61) (by decide) g8) (Ac (n := 40) (by decide) g9) (Ac (n := 41) (by decide) g10) (Ac (n := 123) (by decide) g11) (Ac (n := 125) (by decide) g12) (Ac (n := 91) (by decide) g13) (Ac (n := 93) (by decide) g14) (by rw [g15]; rfl)
  by_cases g16 : s[0] = 59
  ·rw [Av hno (by rw [hhd, g16]; decide)]
   exact T7 s ByteArray.empty w h0 h1 (Ac (n := 43) (by decide) g0) (Ac (n := 45) (by decide) g1) (Ac (n := 42) (by decide) g2) (Ac (n := 47) (by decide) g3) (Ac (n := 37) (by decide) g4) (Ac (n := 60) (by decide) g5) (Ac (n := 62) (by decide) g6) (Ac (n := 33) (by decide) g7) (Ac (n := 61) (by decide) g8) (Ac (n := 40) (by decide) g9) (Ac (n := 41) (by decide) g10) (Ac (n := 123) (by decide) g11) (Ac (n := 125) (by decide) g12) (Ac (n := 91) (by decide) g13) (Ac (n := 93) (by decide) g14) (Ac (n := 44) (by decide) g15) (by rw [g16]; rfl)
  by_cases g17 : s[0] = 58
  ·rw [Av hno (by rw [hhd, g17]; decide)]
   exact T5 s ByteArray.empty w h0 h1 (Ac (n := 43) (by decide) g0) (Ac (n := 45) (by decide) g1) (Ac (n := 42) (by decide) g2) (Ac (n := 47) (by decide) g3) (Ac (n := 37) (by decide) g4) (Ac (n := 60) (by decide) g5) (Ac (n := 62) (by decide) g6) (Ac (n := 33) (by decide) g7) (Ac (n := 61) (by decide) g8) (Ac (n := 40) (by decide) g9) (Ac (n := 41) (by decide) g10) (Ac (n := 123) (by decide) g11) (Ac (n := 125) (by decide) g12) (Ac (n := 91) (by decide) g13) (Ac (n := 93) (by decide) g14) (Ac (n := 44) (by decide) g15) (Ac (n := 59) (by decide) g16) (by rw [g17]; rfl)
  by_cases g18 : s[0] = 46
  ·rw [Av hno (by rw [hhd, g18]; decide)]
   exact T3 s ByteArray.empty w h0 h1 (Ac (n := 43) (by decide) g0) (Ac (n := 45) (by decide) g1) (Ac (n := 42) (by decide) g2) (Ac (n := 47) (by decide) g3) (Ac (n := 37) (by decide) g4) (Ac (n := 60) (by decide) g5) (Ac (n := 62) (by decide) g6) (Ac (n := 33) (by decide) g7) (Ac (n := 61) (by decide) g8) (Ac (n := 40) (by decide) g9) (Ac (n := 41) (by decide) g10) (Ac (n := 123) (by decide) g11) (Ac (n := 125) (by decide) g12) (Ac (n := 91) (by decide) g13) (Ac (n := 93) (by decide) g14) (Ac (n := 44) (by decide) g15) (Ac (n := 59) (by decide) g16) (Ac (n := 58) (by decide) g17) (by rw [g18]; rfl)
  rw [Oj hno (by rw [hhd]; simp [Mc, g0, g1, g2, g3, g4, g5, g6, g7, g8, g9, g10, g11, g12, g13, g14, g15, g16, g17, g18])]
  exact T1 s ByteArray.empty w h0 h1 (Ac (n := 43) (by decide) g0) (Ac (n := 45) (by decide) g1) (Ac (n := 42) (by decide) g2) (Ac (n := 47) (by decide) g3) (Ac (n := 37) (by decide) g4) (Ac (n := 60) (by decide) g5) (Ac (n := 62) (by decide) g6) (Ac (n := 33) (by decide) g7) (Ac (n := 61) (by decide) g8) (Ac (n := 40) (by decide) g9) (Ac (n := 41) (by decide) g10) (Ac (n := 123) (by decide) g11) (Ac (n := 125) (by decide) g12) (Ac (n := 91) (by decide) g13) (Ac (n := 93) (by decide) g14) (Ac (n := 44) (by decide) g15) (Ac (n := 59) (by decide) g16) (Ac (n := 58) (by decide) g17) (Ac (n := 46) (by decide) g18)
theorem Qv (s : ByteArray) (h0 : 0 < s.size) (n : Nat) (hn : sgn s.data.toList = n) (w : World) : Calls Tryz.prog 135 #[.string s] w fun e w' => e = .returned (.int .i64 (n : Nat)) ∧ w = w' := hn ▸ Je s w h0
end
end Go.Proofs.YtoaplbljflhheaaGreat
namespace Go.Proofs.YtoaplbljflhheaaGreat
section
open Go.RowKit
abbrev a88 (o : One) : Value := .tuple #[F9 o.kind 0 0 o.num (bs o.text), .int .i64 (o.size : Nat), .int .i64 o.err]
abbrev Jp (e : Int) : Value := .tuple #[F9 0 0 0 0 { data := #[] }, .int .i64 0, .int .i64 e]
theorem b1q (s X D Y : ByteArray) (w : World) (k k2 r : Nat) (n e : Int) (hs : s.size ≤ 100000) (hks : k ≤ s.size) (hk2 : (k : Int) + 1 = k2) (hk3 : k2 ≤ s.size) (hk : k < s.size) (e105 : ((s[k].toNat : Int) == 105) = true) (hr : 0 < r) (hX : s.extract 0 k = X) (hY : s.extract k2 s.size = Y)
  (H16a : Hid (∀ w, Calls Tryz.prog 94 #[.string s, .func (.func 132) #[] #[]] w fun e w' => e = .returned (.int .i64 (k : Nat)) ∧ w = w'))
  (H37 : Hid (∀ w, Calls Tryz.prog 169 #[.string X] w fun e w' => e = .returned (.string D) ∧ w = w'))
  (H16b : Hid (∀ w, Calls Tryz.prog 94 #[.string Y, .func (.func 129) #[] #[]] w fun e w' => e = .returned (.int .i64 (r : Nat)) ∧ w = w'))
  (H38 : Hid (∀ w, Calls Tryz.prog 170 #[.string D] w fun x w' => x = .returned (.tuple #[.int .i64 n, .int .i64 e]) ∧ w = w')) :
  Calls Tryz.prog 133 #[.string s] w fun x w' => x = .returned (Jp 4) ∧ Below w.heap.size w w' := by
 have hr2 : (0 : Int) < r := by omega
 go_enter Tryz.func133, Tryz.ntmps133
 go_wp2_with fail
 refine (H16a.out _).mono ?_
 rintro _ w' ⟨rfl, rfl⟩
 go_wp2_with fail
 refine (H37.out _).mono ?_
 rintro _ w' ⟨rfl, rfl⟩
 go_wp2_with fail
 refine (H16b.out _).mono ?_
 rintro _ w' ⟨rfl, rfl⟩
 go_wp2
 refine bodyPost_ret (v := Jp 4) (by simp [results, Tryz.results133, go_sem]) rfl ⟨rfl, ?_⟩
 go_grown
theorem b1o (s X D Y : ByteArray) (w : World) (k k2 r : Nat) (n e : Int) (hs : s.size ≤ 100000) (hks : k ≤ s.size) (hk2 : (k : Int) + 1 = k2) (hk3 : k2 ≤ s.size) (hk : k < s.size) (e105 : ((s[k].toNat : Int) == 105) = true) (hr : r = 0) (he : (e != 0) = true) (hX : s.extract 0 k = X) (hY : s.extract k2 s.size = Y)
  (H16a : Hid (∀ w, Calls Tryz.prog 94 #[.string s, .func (.func 132) #[] #[]] w fun e w' => e = .returned (.int .i64 (k : Nat)) ∧ w = w'))
  (H37 : Hid (∀ w, Calls Tryz.prog 169 #[.string X] w fun e w' => e = .returned (.string D) ∧ w = w'))
  (H16b : Hid (∀ w, Calls Tryz.prog 94 #[.string Y, .func (.func 129) #[] #[]] w fun e w' => e = .returned (.int .i64 (r : Nat)) ∧ w = w'))
  (H38 : Hid (∀ w, Calls Tryz.prog 170 #[.string D] w fun x w' => x = .returned (.tuple #[.int .i64 n, .int .i64 e]) ∧ w = w')) :
  Calls Tryz.prog 133 #[.string s] w fun x w' => x = .returned (Jp 14) ∧ Below w.heap.size w w' := by
 subst hr
 go_enter Tryz.func133, Tryz.ntmps133
 go_wp2_with fail
 refine (H16a.out _).mono ?_
 rintro _ w' ⟨rfl, rfl⟩
 go_wp2_with fail
 refine (H37.out _).mono ?_
 rintro _ w' ⟨rfl, rfl⟩
 go_wp2_with fail
 refine (H16b.out _).mono ?_
 rintro _ w' ⟨rfl, rfl⟩
 go_wp2_with fail
 refine (H38.out _).mono ?_
 rintro _ w' ⟨rfl, rfl⟩
 go_wp2
 refine bodyPost_ret (v := Jp 14) (by simp [results, Tryz.results133, go_sem]) rfl ⟨rfl, ?_⟩
 go_grown
theorem b1p (s X D Y : ByteArray) (w : World) (k k2 r : Nat) (n e : Int) (hs : s.size ≤ 100000) (hks : k ≤ s.size) (hk2 : (k : Int) + 1 = k2) (hk3 : k2 ≤ s.size) (hk : k < s.size) (e105 : ((s[k].toNat : Int) == 105) = true) (hr : r = 0) (he : (e != 0) = false) (hn : 8388607 < n) (hX : s.extract 0 k = X) (hY : s.extract k2 s.size = Y)
  (H16a : Hid (∀ w, Calls Tryz.prog 94 #[.string s, .func (.func 132) #[] #[]] w fun e w' => e = .returned (.int .i64 (k : Nat)) ∧ w = w'))
  (H37 : Hid (∀ w, Calls Tryz.prog 169 #[.string X] w fun e w' => e = .returned (.string D) ∧ w = w'))
  (H16b : Hid (∀ w, Calls Tryz.prog 94 #[.string Y, .func (.func 129) #[] #[]] w fun e w' => e = .returned (.int .i64 (r : Nat)) ∧ w = w'))
  (H38 : Hid (∀ w, Calls Tryz.prog 170 #[.string D] w fun x w' => x = .returned (.tuple #[.int .i64 n, .int .i64 e]) ∧ w = w')) :
  Calls Tryz.prog 133 #[.string s] w fun x w' => x = .returned (Jp 14) ∧ Below w.heap.size w w' := by
 subst hr
 go_enter Tryz.func133, Tryz.ntmps133
 go_wp2_with fail
 refine (H16a.out _).mono ?_
 rintro _ w' ⟨rfl, rfl⟩
 go_wp2_with fail
 refine (H37.out _).mono ?_
 rintro _ w' ⟨rfl, rfl⟩
 go_wp2_with fail
 refine (H16b.out _).mono ?_
 rintro _ w' ⟨rfl, rfl⟩
 go_wp2_with fail
 refine (H38.out _).mono ?_
 rintro _ w' ⟨rfl, rfl⟩
 go_wp2
 refine bodyPost_ret (v := Jp 14) (by simp [results, Tryz.results133, go_sem]) rfl ⟨rfl, ?_⟩
 go_grown
theorem b1n (s X D Y : ByteArray) (w : World) (k k2 r : Nat) (n e : Int) (hs : s.size ≤ 100000) (hks : k ≤ s.size) (hk2 : (k : Int) + 1 = k2) (hk3 : k2 ≤ s.size) (hk : k < s.size) (e105 : ((s[k].toNat : Int) == 105) = true) (hr : r = 0) (he : (e != 0) = false) (hn : ¬ 8388607 < n) (hX : s.extract 0 k = X) (hY : s.extract k2 s.size = Y)
  (H16a : Hid (∀ w, Calls Tryz.prog 94 #[.string s, .func (.func 132) #[] #[]] w fun e w' => e = .returned (.int .i64 (k : Nat)) ∧ w = w'))
  (H37 : Hid (∀ w, Calls Tryz.prog 169 #[.string X] w fun e w' => e = .returned (.string D) ∧ w = w'))
  (H16b : Hid (∀ w, Calls Tryz.prog 94 #[.string Y, .func (.func 129) #[] #[]] w fun e w' => e = .returned (.int .i64 (r : Nat)) ∧ w = w'))
  (H38 : Hid (∀ w, Calls Tryz.prog 170 #[.string D] w fun x w' => x = .returned (.tuple #[.int .i64 n, .int .i64 e]) ∧ w = w')) :
  Calls Tryz.prog 133 #[.string s] w fun x w' => x = .returned (.tuple #[F9 4 0 0 n { data := #[] }, .int .i64 (k2 : Nat), .int .i64 0]) ∧ Below w.heap.size w w' := by
 subst hr
 go_enter Tryz.func133, Tryz.ntmps133
 go_wp2_with fail
 refine (H16a.out _).mono ?_
 rintro _ w' ⟨rfl, rfl⟩
 go_wp2_with fail
 refine (H37.out _).mono ?_
 rintro _ w' ⟨rfl, rfl⟩
 go_wp2_with fail
 refine (H16b.out _).mono ?_
 rintro _ w' ⟨rfl, rfl⟩
 go_wp2_with fail
 refine (H38.out _).mono ?_
 rintro _ w' ⟨rfl, rfl⟩
 go_wp2
 refine bodyPost_ret (v := .tuple #[F9 4 0 0 n { data := #[] }, .int .i64 (k2 : Nat), .int .i64 0]) (by simp [results, Tryz.results133, go_sem]) rfl ⟨rfl, ?_⟩
 go_grown
theorem b1i (s X D Y : ByteArray) (w : World) (k r : Nat) (n e : Int) (hs : s.size ≤ 100000) (hks : k ≤ s.size) (hk : k < s.size) (e105 : ((s[k].toNat : Int) == 105) = false) (hr : 0 < r) (hX : s.extract 0 k = X) (hY : s.extract k s.size = Y)
  (H16a : Hid (∀ w, Calls Tryz.prog 94 #[.string s, .func (.func 132) #[] #[]] w fun e w' => e = .returned (.int .i64 (k : Nat)) ∧ w = w'))
  (H37 : Hid (∀ w, Calls Tryz.prog 169 #[.string X] w fun e w' => e = .returned (.string D) ∧ w = w'))
  (H16b : Hid (∀ w, Calls Tryz.prog 94 #[.string Y, .func (.func 129) #[] #[]] w fun e w' => e = .returned (.int .i64 (r : Nat)) ∧ w = w'))
  (H38 : Hid (∀ w, Calls Tryz.prog 170 #[.string D] w fun x w' => x = .returned (.tuple #[.int .i64 n, .int .i64 e]) ∧ w = w')) :
  Calls Tryz.prog 133 #[.string s] w fun x w' => x = .returned (Jp 4) ∧ Below w.heap.size w w' := by
 have hr2 : (0 : Int) < r := by omega
 go_enter Tryz.func133, Tryz.ntmps133
 go_wp2_with fail
 refine (H16a.out _).mono ?_
 rintro _ w' ⟨rfl, rfl⟩
 go_wp2_with fail
 refine (H37.out _).mono ?_
 rintro _ w' ⟨rfl, rfl⟩
 go_wp2_with fail
 refine (H16b.out _).mono ?_
 rintro _ w' ⟨rfl, rfl⟩
 go_wp2
 refine bodyPost_ret (v := Jp 4) (by simp [results, Tryz.results133, go_sem]) rfl ⟨rfl, ?_⟩
 go_grown
theorem b1g (s X D Y : ByteArray) (w : World) (k r : Nat) (n e : Int) (hs : s.size ≤ 100000) (hks : k ≤ s.size) (hk : k < s.size) (e105 : ((s[k].toNat : Int) == 105) = false) (hr : r = 0) (he : (e != 0) = true) (hX : s.extract 0 k = X) (hY : s.extract k s.size = Y)
  (H16a : Hid (∀ w, Calls Tryz.prog 94 #[.string s, .func (.func 132) #[] #[]] w fun e w' => e = .returned (.int .i64 (k : Nat)) ∧ w = w'))
  (H37 : Hid (∀ w, Calls Tryz.prog 169 #[.string X] w fun e w' => e = .returned (.string D) ∧ w = w'))
  (H16b : Hid (∀ w, Calls Tryz.prog 94 #[.string Y, .func (.func 129) #[] #[]] w fun e w' => e = .returned (.int .i64 (r : Nat)) ∧ w = w'))
  (H38 : Hid (∀ w, Calls Tryz.prog 170 #[.string D] w fun x w' => x = .returned (.tuple #[.int .i64 n, .int .i64 e]) ∧ w = w')) :
  Calls Tryz.prog 133 #[.string s] w fun x w' => x = .returned (Jp 14) ∧ Below w.heap.size w w' := by
 subst hr
 go_enter Tryz.func133, Tryz.ntmps133
 go_wp2_with fail
 refine (H16a.out _).mono ?_
 rintro _ w' ⟨rfl, rfl⟩
 go_wp2_with fail
 refine (H37.out _).mono ?_
 rintro _ w' ⟨rfl, rfl⟩
 go_wp2_with fail
 refine (H16b.out _).mono ?_
 rintro _ w' ⟨rfl, rfl⟩
 go_wp2_with fail
 refine (H38.out _).mono ?_
 rintro _ w' ⟨rfl, rfl⟩
 go_wp2
 refine bodyPost_ret (v := Jp 14) (by simp [results, Tryz.results133, go_sem]) rfl ⟨rfl, ?_⟩
 go_grown
theorem b1h (s X D Y : ByteArray) (w : World) (k r : Nat) (n e : Int) (hs : s.size ≤ 100000) (hks : k ≤ s.size) (hk : k < s.size) (e105 : ((s[k].toNat : Int) == 105) = false) (hr : r = 0) (he : (e != 0) = false) (hn : 9223372036854775807 < n) (hX : s.extract 0 k = X) (hY : s.extract k s.size = Y)
  (H16a : Hid (∀ w, Calls Tryz.prog 94 #[.string s, .func (.func 132) #[] #[]] w fun e w' => e = .returned (.int .i64 (k : Nat)) ∧ w = w'))
  (H37 : Hid (∀ w, Calls Tryz.prog 169 #[.string X] w fun e w' => e = .returned (.string D) ∧ w = w'))
  (H16b : Hid (∀ w, Calls Tryz.prog 94 #[.string Y, .func (.func 129) #[] #[]] w fun e w' => e = .returned (.int .i64 (r : Nat)) ∧ w = w'))
  (H38 : Hid (∀ w, Calls Tryz.prog 170 #[.string D] w fun x w' => x = .returned (.tuple #[.int .i64 n, .int .i64 e]) ∧ w = w')) :
  Calls Tryz.prog 133 #[.string s] w fun x w' => x = .returned (Jp 14) ∧ Below w.heap.size w w' := by
 subst hr
 go_enter Tryz.func133, Tryz.ntmps133
 go_wp2_with fail
 refine (H16a.out _).mono ?_
 rintro _ w' ⟨rfl, rfl⟩
 go_wp2_with fail
 refine (H37.out _).mono ?_
 rintro _ w' ⟨rfl, rfl⟩
 go_wp2_with fail
 refine (H16b.out _).mono ?_
 rintro _ w' ⟨rfl, rfl⟩
 go_wp2_with fail
 refine (H38.out _).mono ?_
 rintro _ w' ⟨rfl, rfl⟩
 go_wp2
 refine bodyPost_ret (v := Jp 14) (by simp [results, Tryz.results133, go_sem]) rfl ⟨rfl, ?_⟩
 go_grown
theorem b1f (s X D Y : ByteArray) (w : World) (k r : Nat) (n e : Int) (hs : s.size ≤ 100000) (hks : k ≤ s.size) (hk : k < s.size) (e105 : ((s[k].toNat : Int) == 105) = false) (hr : r = 0) (he : (e != 0) = false) (hn : ¬ 9223372036854775807 < n) (hX : s.extract 0 k = X) (hY : s.extract k s.size = Y)
  (H16a : Hid (∀ w, Calls Tryz.prog 94 #[.string s, .func (.func 132) #[] #[]] w fun e w' => e = .returned (.int .i64 (k : Nat)) ∧ w = w'))
  (H37 : Hid (∀ w, Calls Tryz.prog 169 #[.string X] w fun e w' => e = .returned (.string D) ∧ w = w'))
  (H16b : Hid (∀ w, Calls Tryz.prog 94 #[.string Y, .func (.func 129) #[] #[]] w fun e w' => e = .returned (.int .i64 (r : Nat)) ∧ w = w'))
  (H38 : Hid (∀ w, Calls Tryz.prog 170 #[.string D] w fun x w' => x = .returned (.tuple #[.int .i64 n, .int .i64 e]) ∧ w = w')) :
  Calls Tryz.prog 133 #[.string s] w fun x w' => x = .returned (.tuple #[F9 3 0 0 n { data := #[] }, .int .i64 (k : Nat), .int .i64 0]) ∧ Below w.heap.size w w' := by
 subst hr
 go_enter Tryz.func133, Tryz.ntmps133
 go_wp2_with fail
 refine (H16a.out _).mono ?_
 rintro _ w' ⟨rfl, rfl⟩
 go_wp2_with fail
 refine (H37.out _).mono ?_
 rintro _ w' ⟨rfl, rfl⟩
 go_wp2_with fail
 refine (H16b.out _).mono ?_
 rintro _ w' ⟨rfl, rfl⟩
 go_wp2_with fail
 refine (H38.out _).mono ?_
 rintro _ w' ⟨rfl, rfl⟩
 go_wp2
 refine bodyPost_ret (v := .tuple #[F9 3 0 0 n { data := #[] }, .int .i64 (k : Nat), .int .i64 0]) (by simp [results, Tryz.results133, go_sem]) rfl ⟨rfl, ?_⟩
 go_grown
theorem b1m (s X D Y : ByteArray) (w : World) (k r : Nat) (n e : Int) (hs : s.size ≤ 100000) (hks : k ≤ s.size) (hk : ¬ (k : Int) < s.size) (hr : 0 < r) (hX : s.extract 0 k = X) (hY : s.extract k s.size = Y)
  (H16a : Hid (∀ w, Calls Tryz.prog 94 #[.string s, .func (.func 132) #[] #[]] w fun e w' => e = .returned (.int .i64 (k : Nat)) ∧ w = w'))
  (H37 : Hid (∀ w, Calls Tryz.prog 169 #[.string X] w fun e w' => e = .returned (.string D) ∧ w = w'))
  (H16b : Hid (∀ w, Calls Tryz.prog 94 #[.string Y, .func (.func 129) #[] #[]] w fun e w' => e = .returned (.int .i64 (r : Nat)) ∧ w = w'))
  (H38 : Hid (∀ w, Calls Tryz.prog 170 #[.string D] w fun x w' => x = .returned (.tuple #[.int .i64 n, .int .i64 e]) ∧ w = w')) :
  Calls Tryz.prog 133 #[.string s] w fun x w' => x = .returned (Jp 4) ∧ Below w.heap.size w w' := by
 have hr2 : (0 : Int) < r := by omega
 go_enter Tryz.func133, Tryz.ntmps133
 go_wp2_with fail
 refine (H16a.out _).mono ?_
 rintro _ w' ⟨rfl, rfl⟩
 go_wp2_with fail
 refine (H37.out _).mono ?_
 rintro _ w' ⟨rfl, rfl⟩
 go_wp2_with fail
 refine (H16b.out _).mono ?_
 rintro _ w' ⟨rfl, rfl⟩
 go_wp2
 refine bodyPost_ret (v := Jp 4) (by simp [results, Tryz.results133, go_sem]) rfl ⟨rfl, ?_⟩
 go_grown
theorem b1k (s X D Y : ByteArray) (w : World) (k r : Nat) (n e : Int) (hs : s.size ≤ 100000) (hks : k ≤ s.size) (hk : ¬ (k : Int) < s.size) (hr : r = 0) (he : (e != 0) = true) (hX : s.extract 0 k = X) (hY : s.extract k s.size = Y)
  (H16a : Hid (∀ w, Calls Tryz.prog 94 #[.string s, .func (.func 132) #[] #[]] w fun e w' => e = .returned (.int .i64 (k : Nat)) ∧ w = w'))
  (H37 : Hid (∀ w, Calls Tryz.prog 169 #[.string X] w fun e w' => e = .returned (.string D) ∧ w = w'))
  (H16b : Hid (∀ w, Calls Tryz.prog 94 #[.string Y, .func (.func 129) #[] #[]] w fun e w' => e = .returned (.int .i64 (r : Nat)) ∧ w = w'))
  (H38 : Hid (∀ w, Calls Tryz.prog 170 #[.string D] w fun x w' => x = .returned (.tuple #[.int .i64 n, .int .i64 e]) ∧ w = w')) :
  Calls Tryz.prog 133 #[.string s] w fun x w' => x = .returned (Jp 14) ∧ Below w.heap.size w w' := by
 subst hr
 go_enter Tryz.func133, Tryz.ntmps133
 go_wp2_with fail
 refine (H16a.out _).mono ?_
 rintro _ w' ⟨rfl, rfl⟩
 go_wp2_with fail
 refine (H37.out _).mono ?_
 rintro _ w' ⟨rfl, rfl⟩
 go_wp2_with fail
 refine (H16b.out _).mono ?_
 rintro _ w' ⟨rfl, rfl⟩
 go_wp2_with fail
 refine (H38.out _).mono ?_
 rintro _ w' ⟨rfl, rfl⟩
 go_wp2
 refine bodyPost_ret (v := Jp 14) (by simp [results, Tryz.results133, go_sem]) rfl ⟨rfl, ?_⟩
 go_grown
theorem b1l (s X D Y : ByteArray) (w : World) (k r : Nat) (n e : Int) (hs : s.size ≤ 100000) (hks : k ≤ s.size) (hk : ¬ (k : Int) < s.size) (hr : r = 0) (he : (e != 0) = false) (hn : 9223372036854775807 < n) (hX : s.extract 0 k = X) (hY : s.extract k s.size = Y)
  (H16a : Hid (∀ w, Calls Tryz.prog 94 #[.string s, .func (.func 132) #[] #[]] w fun e w' => e = .returned (.int .i64 (k : Nat)) ∧ w = w'))
  (H37 : Hid (∀ w, Calls Tryz.prog 169 #[.string X] w fun e w' => e = .returned (.string D) ∧ w = w'))
  (H16b : Hid (∀ w, Calls Tryz.prog 94 #[.string Y, .func (.func 129) #[] #[]] w fun e w' => e = .returned (.int .i64 (r : Nat)) ∧ w = w'))
  (H38 : Hid (∀ w, Calls Tryz.prog 170 #[.string D] w fun x w' => x = .returned (.tuple #[.int .i64 n, .int .i64 e]) ∧ w = w')) :
  Calls Tryz.prog 133 #[.string s] w fun x w' => x = .returned (Jp 14) ∧ Below w.heap.size w w' := by
 subst hr
 go_enter Tryz.func133, Tryz.ntmps133
 go_wp2_with fail
 refine (H16a.out _).mono ?_
 rintro _ w' ⟨rfl, rfl⟩
 go_wp2_with fail
 refine (H37.out _).mono ?_
 rintro _ w' ⟨rfl, rfl⟩
 go_wp2_with fail
 refine (H16b.out _).mono ?_
 rintro _ w' ⟨rfl, rfl⟩
 go_wp2_with fail
 refine (H38.out _).mono ?_
 rintro _ w' ⟨rfl, rfl⟩
 go_wp2
 refine bodyPost_ret (v := Jp 14) (by simp [results, Tryz.results133, go_sem]) rfl ⟨rfl, ?_⟩
 go_grown
theorem b1j (s X D Y : ByteArray) (w : World) (k r : Nat) (n e : Int) (hs : s.size ≤ 100000) (hks : k ≤ s.size) (hk : ¬ (k : Int) < s.size) (hr : r = 0) (he : (e != 0) = false) (hn : ¬ 9223372036854775807 < n) (hX : s.extract 0 k = X) (hY : s.extract k s.size = Y)
  (H16a : Hid (∀ w, Calls Tryz.prog 94 #[.string s, .func (.func 132) #[] #[]] w fun e w' => e = .returned (.int .i64 (k : Nat)) ∧ w = w'))
  (H37 : Hid (∀ w, Calls Tryz.prog 169 #[.string X] w fun e w' => e = .returned (.string D) ∧ w = w'))
  (H16b : Hid (∀ w, Calls Tryz.prog 94 #[.string Y, .func (.func 129) #[] #[]] w fun e w' => e = .returned (.int .i64 (r : Nat)) ∧ w = w'))
  (H38 : Hid (∀ w, Calls Tryz.prog 170 #[.string D] w fun x w' => x = .returned (.tuple #[.int .i64 n, .int .i64 e]) ∧ w = w')) :
  Calls Tryz.prog 133 #[.string s] w fun x w' => x = .returned (.tuple #[F9 3 0 0 n { data := #[] }, .int .i64 (k : Nat), .int .i64 0]) ∧ Below w.heap.size w w' := by
 subst hr
 go_enter Tryz.func133, Tryz.ntmps133
 go_wp2_with fail
 refine (H16a.out _).mono ?_
 rintro _ w' ⟨rfl, rfl⟩
 go_wp2_with fail
 refine (H37.out _).mono ?_
 rintro _ w' ⟨rfl, rfl⟩
 go_wp2_with fail
 refine (H16b.out _).mono ?_
 rintro _ w' ⟨rfl, rfl⟩
 go_wp2_with fail
 refine (H38.out _).mono ?_
 rintro _ w' ⟨rfl, rfl⟩
 go_wp2
 refine bodyPost_ret (v := .tuple #[F9 3 0 0 n { data := #[] }, .int .i64 (k : Nat), .int .i64 0]) (by simp [results, Tryz.results133, go_sem]) rfl ⟨rfl, ?_⟩
 go_grown
end
end Go.Proofs.YtoaplbljflhheaaGreat
namespace Go.Proofs.YtoaplbljflhheaaGreat
section
open Go.RowKit
theorem Hj (s : ByteArray) (k : Nat) : (s.extract 0 k).data.toList = s.data.toList.take k := by rw [De]; simp
theorem Dd (s : ByteArray) (k : Nat) (h : k ≤ s.size) : (s.extract 0 k).size = k := by rw [← Ae, Hj, List.length_take, Ae]; omega
theorem U8 (s : ByteArray) (w : World) (hs : s.size ≤ 100000) (h0 : 0 < s.size) (hd : dgt s[0] = true) :
  Calls Tryz.prog 133 #[.string s] w fun x w' => x = .returned (a88 (Pe s.data.toList)) ∧ Below w.heap.size w w' := by
 have hl : s.data.toList ≠ [] := fun e => by have := Ae s; rw [e] at this; simp at this; omega
 obtain ⟨k, hk⟩ : ∃ k, Bz dgt s.data.toList = k := ⟨_, rfl⟩
 have hk1 : 1 ≤ k := by rw [← hk]; exact H7 (by rw [B9 s h0]; exact hd) hl
 have hks : k ≤ s.size := by rw [← hk, ← Ae]; exact Gq _ _
 obtain ⟨X, hX⟩ : ∃ X, s.extract 0 k = X := ⟨_, rfl⟩
 have hXl : X.data.toList = s.data.toList.take k := by rw [← hX, Hj]
 have hXs : X.size = k := by rw [← hX, Dd s k hks]
 have hND : a42 s.data.toList = a85 X.data.toList := by rw [a42, hk, hXl]
 obtain ⟨D, hD⟩ : ∃ D, bs (a85 X.data.toList) = D := ⟨_, rfl⟩
 have hDl : D.data.toList = a42 s.data.toList := by rw [← hD, Bk, hND]
 have hDs : D.size ≤ 100000 := by
  rw [← Ae, hDl, hND, a85, List.length_drop, Ae]; omega
 have H16a := zz (fun w => Un s (by omega) k hk w)
 have H37 := zz (fun w => a07 X w (by omega) (by omega) D (zz hD))
 have H38 := zz (fun w => Nm.parse_any D w hDs)
 rw [hDl] at H38
 obtain ⟨k2, hk2⟩ : ∃ k2, a0x s.data.toList = k2 := ⟨_, rfl⟩
 obtain ⟨Y, hY⟩ : ∃ Y, s.extract k2 s.size = Y := ⟨_, rfl⟩
 have hYl : Y.data.toList = s.data.toList.drop k2 := by rw [← hY, Ee]
 obtain ⟨r, hr⟩ : ∃ r, Bz nam (s.data.toList.drop k2) = r := ⟨_, rfl⟩
 have hYs : Y.size ≤ 1000000 := by rw [← Ae, hYl, List.length_drop, Ae]; omega
 have H16b := zz (fun w => L5 Y hYs r (by rw [hYl]; exact hr) w)
 obtain ⟨e, he⟩ : ∃ e, Nm.parseE (a42 s.data.toList) = e := ⟨_, rfl⟩
 obtain ⟨n, hn⟩ : ∃ n, Nm.parseN (a42 s.data.toList) = n := ⟨_, rfl⟩
 rw [he, hn] at H38
 unfold Pe
 rw [hk2, hr, he, hn]
 have b1 : ¬ e = 0 → (e != 0) = true := fun h => by simpa using h
 have b2 : e = 0 → (e != 0) = false := fun h => by simpa using h
 cases hc : isC s.data.toList with
 | true =>
  have hkk : k2 = k + 1 := by rw [← hk2, a0x, if_pos hc, hk]
  have hk3 : k < s.size ∧ (s.data.toList.drop k).head? = some 105 := by
   unfold isC at hc
   rw [decide_eq_true_eq, hk] at hc
   refine ⟨?_, hc⟩
   by_cases hlt : k < s.size
   ·exact hlt
   ·rw [Bu s k (by omega)] at hc; simp at hc
  have hb : s[k]'hk3.1 = 105 := by have := hk3.2; rw [Fh s k hk3.1] at this; simpa using this
  have e105 : (((s[k]'hk3.1).toNat : Int) == 105) = true := by rw [hb]; rfl
  have hM : b1w s.data.toList = 8388607 := by rw [b1w, if_pos hc]
  rw [hM, if_pos rfl]
  by_cases hr0 : 0 < r
  ·rw [if_pos hr0]
   exact b1q s X D Y w k k2 r n e hs hks (by omega) (by omega) hk3.1 e105 hr0 hX hY H16a H37 H16b H38
  ·rw [if_neg hr0]
   by_cases he0 : e = 0
   ·by_cases hno : 8388607 < n
    ·rw [if_pos (.inr hno)]
     exact b1p s X D Y w k k2 r n e hs hks (by omega) (by omega) hk3.1 e105 (by omega) (b2 he0) hno hX hY H16a H37 H16b H38
    ·rw [if_neg (fun h => h.elim (fun h => h he0) hno)]
     exact b1n s X D Y w k k2 r n e hs hks (by omega) (by omega) hk3.1 e105 (by omega) (b2 he0) hno hX hY H16a H37 H16b H38
   ·rw [if_pos (.inl he0)]
    exact b1o s X D Y w k k2 r n e hs hks (by omega) (by omega) hk3.1 e105 (by omega) (b1 he0) hX hY H16a H37 H16b H38
 | false =>
  have hkk : k2 = k := by rw [← hk2, a0x, hc, hk]; rfl
  subst hkk
  have hM : b1w s.data.toList = 9223372036854775807 := by rw [b1w, hc]; rfl
  rw [hM, if_neg (show ¬ (false = true) by simp)]
  unfold isC at hc
  rw [decide_eq_false_iff_not, hk] at hc
  by_cases hlt : k2 < s.size
  ·have hb : s[k2] ≠ 105 := fun h => hc (by rw [Fh s k2 hlt, h])
   have e105 : ((s[k2].toNat : Int) == 105) = false := Ac (n := 105) (by decide) hb
   by_cases hr0 : 0 < r
   ·rw [if_pos hr0]
    exact b1i s X D Y w k2 r n e hs hks hlt e105 hr0 hX hY H16a H37 H16b H38
   ·rw [if_neg hr0]
    by_cases he0 : e = 0
    ·by_cases hno : 9223372036854775807 < n
     ·rw [if_pos (.inr hno)]
      exact b1h s X D Y w k2 r n e hs hks hlt e105 (by omega) (b2 he0) hno hX hY H16a H37 H16b H38
     ·rw [if_neg (fun h => h.elim (fun h => h he0) hno)]
      exact b1f s X D Y w k2 r n e hs hks hlt e105 (by omega) (b2 he0) hno hX hY H16a H37 H16b H38
    ·rw [if_pos (.inl he0)]
     exact b1g s X D Y w k2 r n e hs hks hlt e105 (by omega) (b1 he0) hX hY H16a H37 H16b H38
  ·by_cases hr0 : 0 < r
   ·rw [if_pos hr0]
    exact b1m s X D Y w k2 r n e hs hks (by omega) hr0 hX hY H16a H37 H16b H38
   ·rw [if_neg hr0]
    by_cases he0 : e = 0
    ·by_cases hno : 9223372036854775807 < n
     ·rw [if_pos (.inr hno)]
      exact b1l s X D Y w k2 r n e hs hks (by omega) (by omega) (b2 he0) hno hX hY H16a H37 H16b H38
     ·rw [if_neg (fun h => h.elim (fun h => h he0) hno)]
      exact b1j s X D Y w k2 r n e hs hks (by omega) (by omega) (b2 he0) hno hX hY H16a H37 H16b H38
    ·rw [if_pos (.inl he0)]
     exact b1k s X D Y w k2 r n e hs hks (by omega) (by omega) (b1 he0) hX hY H16a H37 H16b H38
theorem b17 (s : ByteArray) (w : World) (N : Nat) (HE : Hid (∀ w, Calls Tryz.prog 171 #[.string s] w fun e w' => e = .returned (.tuple #[.int .i64 (N : Nat), .bool false]) ∧ w = w')) :
  Calls Tryz.prog 134 #[.string s] w fun e w' => e = .returned (Jp 4) ∧ Below w.heap.size w w' := by
 go_enter Tryz.func134, Tryz.ntmps134
 go_wp2_with fail
 refine (HE.out _).mono ?_
 rintro _ w' ⟨rfl, rfl⟩
 go_wp2
 refine bodyPost_ret (v := Jp 4) (by simp [results, Tryz.results134, go_sem]) rfl ⟨rfl, ?_⟩
 go_grown
theorem a7g (s X T : ByteArray) (w : World) (N : Nat) (hN : N ≤ s.size) (hX : s.extract 0 N = X) (HE : Hid (∀ w, Calls Tryz.prog 171 #[.string s] w fun e w' => e = .returned (.tuple #[.int .i64 (N : Nat), .bool true]) ∧ w = w'))
  (HU : Hid (∀ w, Calls Tryz.prog 172 #[.string X] w fun e w' => e = .returned (.tuple #[.string T, .int .i64 0]) ∧ Below w.heap.size w w')) :
  Calls Tryz.prog 134 #[.string s] w fun e w' => e = .returned (.tuple #[F9 5 0 0 0 T, .int .i64 (N : Nat), .int .i64 0]) ∧ Below w.heap.size w w' := by
 go_enter Tryz.func134, Tryz.ntmps134
 go_wp2_with fail
 refine (HE.out _).mono ?_
 rintro _ w' ⟨rfl, rfl⟩
 go_wp2_with fail
 refine (HU.out _).mono ?_
 rintro _ w1 ⟨rfl, hb⟩
 obtain ⟨hc, hf⟩ := Bx hb
 have hz := hb.size
 simp only [World.size_alloc] at hc hf hz
 go_wp2
 refine bodyPost_ret (v := .tuple #[F9 5 0 0 0 T, .int .i64 (N : Nat), .int .i64 0]) (by simp [results, Tryz.results134, go_sem, hc]) rfl ⟨rfl, ?_⟩
 have hb' := (by go_grown : Below w.heap.size w _).trans (hb.mono (by simp))
 go_grown
theorem He (t : List UInt8) : Bb (34 :: t) = ((Ci t).1, 1 + (Ci t).2.1, (Ci t).2.2) := by rw [Bb]; exact if_pos rfl
theorem Oz (l : List UInt8) (h : (Bb l).2.2 = true) : ∃ t, l = 34 :: t := by
 unfold Bb at h
 split at h
 ·rename_i hq
  cases l with
  | nil => simp at hq
  | cons c t => simp at hq; exact ⟨t, by rw [hq]⟩
 ·simp at h
theorem Xs : ∀ n (m : List UInt8), m.length ≤ n → (Ci m).2.2 = true → ∀ x, Ci (m.take (Ci m).2.1 ++ x) = Ci m := by
 intro n
 induction n with
 | zero =>
  intro m hm h
  obtain rfl : m = [] := List.eq_nil_of_length_eq_zero (by omega)
  simp [Ci, rb] at h
 | succ n ih =>
  intro m hm h x
  by_cases hq : m.head? = some 34
  ·rw [Dk m hq]
   cases m with
   | nil => simp at hq
   | cons c t => exact Dk _ (by simpa using hq)
  ·by_cases hb : (rb m).2.2 = true
   ·have hs := D8 m hq hb
    have hz := Fq m hb
    rw [hs] at h
    have hi := ih (m.drop (rb m).2.1) (by simp; omega) h x
    have hg0 : rb (m.take (Ci m).2.1) = rb m := So m hb _ (by rw [hs]; simp)
    have hg : rb (m.take (Ci m).2.1 ++ x) = rb m := by rw [b05 _ _ (by rw [hg0]; exact hb), hg0]
    have hle : (rb m).2.1 ≤ (m.take (Ci m).2.1).length := by rw [List.length_take, hs]; simp; omega
    have hq2 : ¬ (m.take (Ci m).2.1 ++ x).head? = some 34 := by
     cases m with
     | nil => simp at hz; omega
     | cons c t =>
      have h1 : (Ci (c :: t)).2.1 = ((Ci (c :: t)).2.1 - 1) + 1 := by rw [hs]; simp; omega
      rw [h1, List.take_succ_cons]
      simpa using hq
    rw [D8 _ hq2 (by rw [hg]; exact hb), hg]
    have hd : (m.take (Ci m).2.1 ++ x).drop (rb m).2.1 = (m.drop (rb m).2.1).take (Ci (m.drop (rb m).2.1)).2.1 ++ x := by
     rw [List.drop_append_of_le_length hle, List.drop_take]; congr 2; rw [hs]; simp
    rw [hd, hi, ← hs]
   ·rw [Et m hq (by simpa using hb)] at h
    simp at h
theorem M1 (l : List UInt8) (h : (Bb l).2.2 = true) (x : List UInt8) : Bb (l.take (Bb l).2.1 ++ x) = Bb l := by
 obtain ⟨t, rfl⟩ := Oz l h
 rw [He] at h ⊢
 have := Xs _ t (Nat.le_refl _) h x
 show Bb ((34 :: t).take (1 + (Ci t).2.1) ++ x) = _
 rw [show 1 + (Ci t).2.1 = (Ci t).2.1 + 1 by omega, List.take_succ_cons, List.cons_append, He, this]
 simp; omega
theorem Yc (l : List UInt8) (h : (Bb l).2.2 = true) : Bb (l.take (Bb l).2.1) = Bb l := by
 have := M1 l h []
 rwa [List.append_nil] at this
theorem Ro (s : ByteArray) (w : World) (hs : s.size ≤ 100000) :
  Calls Tryz.prog 134 #[.string s] w fun x w' => x = .returned (a88 (Ku s.data.toList)) ∧ Below w.heap.size w w' := by
 have HE := fun w => Z5 s w (by omega) _ rfl
 unfold Ku
 cases hok : (Bb s.data.toList).2.2 with
 | false =>
  rw [hok] at HE
  rw [if_neg (by simp)]
  exact b17 s w _ (zz HE)
 | true =>
  rw [hok] at HE
  rw [if_pos rfl]
  obtain ⟨h1, h2, h3⟩ := Jq s.data.toList hok
  rw [Ae] at h2
  have ht := Yc s.data.toList hok
  have HU := fun w => Ql (s.extract 0 (Bb s.data.toList).2.1) w (by rw [Dd s _ h2]; omega)
  have hu : Wl (s.extract 0 (Bb s.data.toList).2.1).data.toList = ((Bb s.data.toList).1, 0) := by
   rw [Hj, Wl, ht]
   exact if_pos ⟨hok, by rw [List.length_take, Ae]; omega⟩
  rw [hu] at HU
  exact a7g s _ _ w _ h2 rfl (zz HE) (zz HU)
end
end Go.Proofs.YtoaplbljflhheaaGreat
namespace Go.Proofs.YtoaplbljflhheaaGreat
section
open Go.RowKit Go.Sort
abbrev Gk (f : Nat) (c : UInt8) (b : Bool) : Prop := ∀ w, Calls Tryz.prog f #[byt c] w fun e w' => e = .returned (.bool b) ∧ w = w'
theorem Tp (s X : ByteArray) (w : World) (h0 : 0 < s.size) (hs : s.size ≤ 100000) (n k : Nat) (hn : n ≤ s.size) (hX : s.extract 0 n = X)
  (H25 : Hid (Gk 127 s[0] true))
  (H16 : Hid (∀ w, Calls Tryz.prog 94 #[.string s, .func (.func 129) #[] #[]] w fun e w' => e = .returned (.int .i64 (n : Nat)) ∧ w = w'))
  (H29 : Hid (∀ w, Calls Tryz.prog 131 #[.string X] w fun e w' => e = .returned (.int .u8 (k : Nat)) ∧ w = w'))
  (H28 : Hid (∀ w, Calls Tryz.prog 130 #[.int .u8 (k : Nat), .string X] w fun e w' => e = .returned (F9 k 0 0 0 X) ∧ Below w.heap.size w w')) :
  Calls Tryz.prog 96 #[.string s] w fun x w' => x = .returned (.tuple #[F9 k 0 0 0 X, .int .i64 (n : Nat), .int .i64 0]) ∧ Below w.heap.size w w' := by
 have hne := E8 s h0
 go_enter Tryz.func96, Tryz.ntmps96
 go_wp2_with fail
 refine (H25.out _).mono ?_
 rintro e w' ⟨rfl, rfl⟩
 go_wp2_with fail
 refine (H16.out _).mono ?_
 rintro e w' ⟨rfl, rfl⟩
 go_wp2_with fail
 go_region_with (first
  | (go_at_call 131; refine (H29.out _).mono ?_; rintro e w' ⟨rfl, rfl⟩)
  | (go_at_call 130; refine (H28.out _).mono ?_; rintro e w1 ⟨rfl, hb⟩; obtain ⟨hc, hf⟩ := Bx hb; have hz := hb.size; simp only [World.size_alloc, World.size_drew] at hc hf hz))
 go_wp2
 refine bodyPost_ret (v := .tuple #[F9 k 0 0 0 X, .int .i64 (n : Nat), .int .i64 0]) (by simp [results, Tryz.results96, go_sem, hc]) rfl ⟨rfl, ?_⟩
 have hb' := (by go_grown : Below w.heap.size w _).trans (hb.mono (by simp))
 go_grown
theorem Tr (s X : ByteArray) (w : World) (h0 : 0 < s.size) (hs : s.size ≤ 100000) (n k : Nat) (hn : n ≤ s.size) (hX : s.extract 0 n = X)
  (H25 : Hid (Gk 127 s[0] false)) (H26 : Hid (Gk 128 s[0] true))
  (H16 : Hid (∀ w, Calls Tryz.prog 94 #[.string s, .func (.func 129) #[] #[]] w fun e w' => e = .returned (.int .i64 (n : Nat)) ∧ w = w'))
  (H29 : Hid (∀ w, Calls Tryz.prog 131 #[.string X] w fun e w' => e = .returned (.int .u8 (k : Nat)) ∧ w = w'))
  (H28 : Hid (∀ w, Calls Tryz.prog 130 #[.int .u8 (k : Nat), .string X] w fun e w' => e = .returned (F9 k 0 0 0 X) ∧ Below w.heap.size w w')) :
  Calls Tryz.prog 96 #[.string s] w fun x w' => x = .returned (.tuple #[F9 k 0 0 0 X, .int .i64 (n : Nat), .int .i64 0]) ∧ Below w.heap.size w w' := by
 have hne := E8 s h0
 go_enter Tryz.func96, Tryz.ntmps96
 go_wp2_with fail
 refine (H25.out _).mono ?_
 rintro e w' ⟨rfl, rfl⟩
 go_wp2_with fail
 refine (H26.out _).mono ?_
 rintro e w' ⟨rfl, rfl⟩
 go_wp2_with fail
 refine (H16.out _).mono ?_
 rintro e w' ⟨rfl, rfl⟩
 go_wp2_with fail
 go_region_with (first
  | (go_at_call 131; refine (H29.out _).mono ?_; rintro e w' ⟨rfl, rfl⟩)
  | (go_at_call 130; refine (H28.out _).mono ?_; rintro e w1 ⟨rfl, hb⟩; obtain ⟨hc, hf⟩ := Bx hb; have hz := hb.size; simp only [World.size_alloc, World.size_drew] at hc hf hz))
 go_wp2
 refine bodyPost_ret (v := .tuple #[F9 k 0 0 0 X, .int .i64 (n : Nat), .int .i64 0]) (by simp [results, Tryz.results96, go_sem, hc]) rfl ⟨rfl, ?_⟩
 have hb' := (by go_grown : Below w.heap.size w _).trans (hb.mono (by simp))
 go_grown
theorem To (s T : ByteArray) (w : World) (h0 : 0 < s.size) (k n : Nat) (m e : Int)
  (H25 : Hid (Gk 127 s[0] false)) (H26 : Hid (Gk 128 s[0] false)) (H30 : Hid (Gk 132 s[0] true))
  (H : Hid (∀ w, Calls Tryz.prog 133 #[.string s] w fun x w' => x = .returned (.tuple #[F9 k 0 0 m T, .int .i64 (n : Nat), .int .i64 e]) ∧ Below w.heap.size w w')) :
  Calls Tryz.prog 96 #[.string s] w fun x w' => x = .returned (.tuple #[F9 k 0 0 m T, .int .i64 (n : Nat), .int .i64 e]) ∧ Below w.heap.size w w' := by
 have hne := E8 s h0
 go_enter Tryz.func96, Tryz.ntmps96
 go_wp2_with fail
 refine (H25.out _).mono ?_
 rintro e w' ⟨rfl, rfl⟩
 go_wp2_with fail
 refine (H26.out _).mono ?_
 rintro e w' ⟨rfl, rfl⟩
 go_wp2_with fail
 refine (H30.out _).mono ?_
 rintro e w' ⟨rfl, rfl⟩
 go_wp2_with fail
 refine (H.out _).mono ?_
 rintro _ w1 ⟨rfl, hb⟩
 obtain ⟨hc, hf⟩ := Bx hb
 have hz := hb.size
 simp only [World.size_alloc] at hc hf hz
 go_wp2
 refine bodyPost_ret (v := .tuple #[F9 k 0 0 m T, .int .i64 (n : Nat), .int .i64 e]) (by simp [results, Tryz.results96, go_sem, hc]) rfl ⟨rfl, ?_⟩
 have hb' := (by go_grown : Below w.heap.size w _).trans (hb.mono (by simp))
 go_grown
theorem Qr (s T : ByteArray) (w : World) (h0 : 0 < s.size) (k n : Nat) (m e : Int)
  (e34 : ((s[0].toNat : Int) == 34) = true) (H25 : Hid (Gk 127 s[0] false)) (H26 : Hid (Gk 128 s[0] false)) (H30 : Hid (Gk 132 s[0] false))
  (H : Hid (∀ w, Calls Tryz.prog 134 #[.string s] w fun x w' => x = .returned (.tuple #[F9 k 0 0 m T, .int .i64 (n : Nat), .int .i64 e]) ∧ Below w.heap.size w w')) :
  Calls Tryz.prog 96 #[.string s] w fun x w' => x = .returned (.tuple #[F9 k 0 0 m T, .int .i64 (n : Nat), .int .i64 e]) ∧ Below w.heap.size w w' := by
 have hne := E8 s h0
 go_enter Tryz.func96, Tryz.ntmps96
 go_wp2_with fail
 refine (H25.out _).mono ?_
 rintro e w' ⟨rfl, rfl⟩
 go_wp2_with fail
 refine (H26.out _).mono ?_
 rintro e w' ⟨rfl, rfl⟩
 go_wp2_with fail
 refine (H30.out _).mono ?_
 rintro e w' ⟨rfl, rfl⟩
 go_wp2_with fail
 refine (H.out _).mono ?_
 rintro _ w1 ⟨rfl, hb⟩
 obtain ⟨hc, hf⟩ := Bx hb
 have hz := hb.size
 simp only [World.size_alloc] at hc hf hz
 go_wp2
 refine bodyPost_ret (v := .tuple #[F9 k 0 0 m T, .int .i64 (n : Nat), .int .i64 e]) (by simp [results, Tryz.results96, go_sem, hc]) rfl ⟨rfl, ?_⟩
 have hb' := (by go_grown : Below w.heap.size w _).trans (hb.mono (by simp))
 go_grown
theorem a09 (s : ByteArray) (w : World) (h0 : 0 < s.size) (e34 : ((s[0].toNat : Int) == 34) = false) (H25 : Hid (Gk 127 s[0] false)) (H26 : Hid (Gk 128 s[0] false)) (H30 : Hid (Gk 132 s[0] false))
  (H33 : Hid (∀ w, Calls Tryz.prog 135 #[.string s] w fun e w' => e = .returned (.int .i64 ((0 : Nat) : Int)) ∧ w = w')) :
  Calls Tryz.prog 96 #[.string s] w fun x w' => x = .returned (Jp 4) ∧ Below w.heap.size w w' := by
 have hne := E8 s h0
 go_enter Tryz.func96, Tryz.ntmps96
 go_wp2_with fail
 refine (H25.out _).mono ?_
 rintro e w' ⟨rfl, rfl⟩
 go_wp2_with fail
 refine (H26.out _).mono ?_
 rintro e w' ⟨rfl, rfl⟩
 go_wp2_with fail
 refine (H30.out _).mono ?_
 rintro e w' ⟨rfl, rfl⟩
 go_wp2_with fail
 refine (H33.out _).mono ?_
 rintro e w' ⟨rfl, rfl⟩
 go_wp2
 refine bodyPost_ret (v := Jp 4) (by simp [results, Tryz.results96, go_sem]) rfl ⟨rfl, ?_⟩
 go_grown
theorem a08 (s X : ByteArray) (w : World) (h0 : 0 < s.size) (n : Nat) (hn0 : ((n : Int) == 0) = false) (hn : n ≤ s.size) (hs : s.size ≤ 100000) (hX : s.extract 0 n = X) (e34 : ((s[0].toNat : Int) == 34) = false) (H25 : Hid (Gk 127 s[0] false)) (H26 : Hid (Gk 128 s[0] false)) (H30 : Hid (Gk 132 s[0] false))
  (H33 : Hid (∀ w, Calls Tryz.prog 135 #[.string s] w fun e w' => e = .returned (.int .i64 (n : Nat)) ∧ w = w'))
  (H28 : Hid (∀ w, Calls Tryz.prog 130 #[.int .u8 7, .string X] w fun e w' => e = .returned (F9 7 0 0 0 X) ∧ Below w.heap.size w w')) :
  Calls Tryz.prog 96 #[.string s] w fun x w' => x = .returned (.tuple #[F9 7 0 0 0 X, .int .i64 (n : Nat), .int .i64 0]) ∧ Below w.heap.size w w' := by
 have hne := E8 s h0
 go_enter Tryz.func96, Tryz.ntmps96
 go_wp2_with fail
 refine (H25.out _).mono ?_
 rintro e w' ⟨rfl, rfl⟩
 go_wp2_with fail
 refine (H26.out _).mono ?_
 rintro e w' ⟨rfl, rfl⟩
 go_wp2_with fail
 refine (H30.out _).mono ?_
 rintro e w' ⟨rfl, rfl⟩
 go_wp2_with fail
 refine (H33.out _).mono ?_
 rintro e w' ⟨rfl, rfl⟩
 go_wp2_with fail
 refine (H28.out _).mono ?_
 rintro _ w1 ⟨rfl, hb⟩
 obtain ⟨hc, hf⟩ := Bx hb
 have hz := hb.size
 simp only [World.size_alloc] at hc hf hz
 go_wp2
 refine bodyPost_ret (v := .tuple #[F9 7 0 0 0 X, .int .i64 (n : Nat), .int .i64 0]) (by simp [results, Tryz.results96, go_sem, hc]) rfl ⟨rfl, ?_⟩
 have hb' := (by go_grown : Below w.heap.size w _).trans (hb.mono (by simp))
 go_grown
theorem b0r (l : List UInt8) (hl : l ≠ []) : sgn l ≤ l.length := by
 unfold sgn
 split
 ·rename_i h5
  have h6 : ∀ x ∈ Hy, x.length = 2 := by decide
  have := h6 _ h5
  rw [List.length_take] at this; omega
 ·split
  ·cases l with
   | nil => exact absurd rfl hl
   | cons => simp
  ·omega
theorem R0 (s : ByteArray) (n : Nat) : bs (s.data.toList.take n) = s.extract 0 n := by rw [← Hj, Ei]
theorem Wp (s : ByteArray) (w : World) (hs : s.size ≤ 100000) (h0 : 0 < s.size) :
  Calls Tryz.prog 96 #[.string s] w fun x w' => x = .returned (a88 (one s.data.toList)) ∧ Below w.heap.size w w' := by
 have hl : s.data.toList ≠ [] := fun e => by have := Ae s; rw [e] at this; simp at this; omega
 have hhd := B9 s h0
 have hrl : Bz nam s.data.toList ≤ s.size := by rw [← Ae]; exact Gq _ _
 have hsl : sgn s.data.toList ≤ s.size := by rw [← Ae]; exact b0r _ hl
 have H16 := zz (fun w => L5 s (by omega) _ rfl w)
 have name : (sml s[0] || grt s[0]) = true → 1 ≤ Bz nam s.data.toList := fun h => H7 (by rw [hhd]; unfold nam; rw [h]; rfl) hl
 have H29 : (sml s[0] || grt s[0]) = true → ∀ w, Calls Tryz.prog 131 #[.string (s.extract 0 (Bz nam s.data.toList))] w fun e w' => e = .returned (.int .u8 (Qe s.data.toList : Nat)) ∧ w = w' := fun h w => by
  have hx : 0 < (s.extract 0 (Bz nam s.data.toList)).size := by rw [Dd s _ hrl]; exact name h
  refine Pw _ w hx _ (zz ?_)
  rw [Hj, Qe, hhd]
  have e0 : (s.extract 0 (Bz nam s.data.toList))[0] = s[0] := by
   have h1 := B9 _ hx
   rw [Hj] at h1
   rw [← h1, ← hhd]
   have h2 := name h
   cases hc : s.data.toList with
   | nil => exact absurd hc hl
   | cons c t =>
    rw [hc] at h2
    rw [show Bz nam (c :: t) = (Bz nam (c :: t) - 1) + 1 by omega, List.take_succ_cons]; rfl
  rw [e0]
 have hX := Dd s _ hrl
 unfold one
 rw [hhd]
 cases h1 : sml s[0] with
 | true =>
  rw [h1] at H29
  rw [if_pos (by simp)]; dsimp only [a88]; rw [R0]
  exact Tp s _ w h0 hs _ _ hrl rfl (zz fun w => Jr h1 w) H16 (zz (H29 (by simp))) (zz fun w => Mu _ _ w (by omega))
 | false =>
  have H25 : Hid (Gk 127 s[0] false) := zz fun w => Jr h1 w
  cases h2 : grt s[0] with
  | true =>
   rw [h2] at H29
   rw [if_pos (by simp)]; dsimp only [a88]; rw [R0]
   exact Tr s _ w h0 hs _ _ hrl rfl H25 (zz fun w => Hi h2 w) H16 (zz (H29 (by simp))) (zz fun w => Mu _ _ w (by omega))
  | false =>
   have H26 : Hid (Gk 128 s[0] false) := zz fun w => Hi h2 w
   rw [if_neg (by simp)]
   cases h3 : dgt s[0] with
   | true =>
    rw [if_pos rfl]
    exact To s _ w h0 _ _ _ _ H25 H26 (zz fun w => S7 h3 w) (zz fun w => U8 s w hs h0 h3)
   | false =>
    have H30 : Hid (Gk 132 s[0] false) := zz fun w => S7 h3 w
    rw [if_neg (by simp)]
    by_cases h34 : s[0] = 34
    ·rw [if_pos h34]
     exact Qr s _ w h0 _ _ _ _ (by rw [h34]; rfl) H25 H26 H30 (zz fun w => Ro s w hs)
    ·rw [if_neg h34]
     have e34 : ((s[0].toNat : Int) == 34) = false := Ac (n := 34) (by decide) h34
     unfold L4
     by_cases hn : sgn s.data.toList = 0
     ·rw [if_pos hn]
      exact a09 s w h0 e34 H25 H26 H30 (zz fun w => Qv s h0 0 hn w)
     ·rw [if_neg hn]; dsimp only [a88]; rw [R0]
      exact a08 s _ w h0 _ (by rw [beq_eq_false_iff_ne]; omega) hsl hs rfl e34 H25 H26 H30 (zz fun w => Je s w h0) (zz fun w => Mu 7 _ w (by rw [Dd s _ hsl]; omega))
end
end Go.Proofs.YtoaplbljflhheaaGreat
