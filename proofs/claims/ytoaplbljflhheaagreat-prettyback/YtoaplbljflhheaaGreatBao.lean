/-
 Contracts and plain facts on the way to PrettyBack. Conditions: as each says.
-/
import Derived.Shelf.Pu.Clone
import Derived.Deep.RegionWith
import Derived.Test.YtoaplbljflhheaaGreatBab
import Derived.Test.YtoaplbljflhheaaGreatBaj
import Derived.Test.YtoaplbljflhheaaGreatBad
set_option maxHeartbeats 40000000
set_option maxRecDepth 100000
set_option linter.unusedVariables false
set_option linter.unusedSimpArgs false
namespace Go.Proofs.YtoaplbljflhheaaGreat
open _root_.Go.Proofs.Tryz
section
section
open Go.RowKit Go.Shelf
def c4b : Ren := { f := fun i => if i = 25 then 188 else i, t := fun i => if i = 37 then 58 else if i = 47 then 114 else i, g := fun i => i }
theorem c39 : LaysPu.n25 prog c4b where
 mixed := by kernel_rfl
 f25 := by kernel_rfl
 t0 := by kernel_rfl
 a0 := fun w => by kernel_rfl
 z0 := fun w => by kernel_rfl
 v0 := fun w => by kernel_rfl
 i0 := by kernel_rfl
 t3 := by kernel_rfl
 a3 := fun w => by kernel_rfl
 z3 := fun w => by kernel_rfl
 v3 := fun w => by kernel_rfl
 i3 := by kernel_rfl
 t4 := by kernel_rfl
 a4 := fun w => by kernel_rfl
 z4 := fun w => by kernel_rfl
 v4 := fun w => by kernel_rfl
 i4 := by kernel_rfl
 t5 := by kernel_rfl
 a5 := fun w => by kernel_rfl
 z5 := fun w => by kernel_rfl
 v5 := fun w => by kernel_rfl
 i5 := by kernel_rfl
 t9 := by kernel_rfl
 a9 := fun w => by kernel_rfl
 z9 := fun w => by kernel_rfl
 v9 := fun w => by kernel_rfl
 i9 := by kernel_rfl
 t37 := by kernel_rfl
 a37 := fun w => by kernel_rfl
 z37 := fun w => by kernel_rfl
 v37 := fun w => by kernel_rfl
 i37 := by kernel_rfl
 t47 := by kernel_rfl
 a47 := fun w => by kernel_rfl
 z47 := fun w => by kernel_rfl
 v47 := fun w => by kernel_rfl
 i47 := by kernel_rfl
theorem b06 (s : ByteArray) (w : World) (hs : s.size <= 1000000) : Calls prog 188 #[.string s] w fun e w' => e = .returned (.string s) ∧ Below w.heap.size w w' :=
 AnyPu.stringslite_Clone c39 s w (by omega)
theorem a54 (s : ByteArray) (w : World) (hs : s.size <= 1000000) : Calls prog 168 #[.string s] w fun e w' => e = .returned (.string s) ∧ Below w.heap.size w w' := by
 have H := zz (fun w => b06 s w hs);go_enter func168, ntmps168;go_wp2_with fail;refine (H.out _).mono ?_;rintro e w1 ⟨rfl, hb⟩;go_wp2;go_ret;exact ⟨rfl, hb⟩
abbrev Jl (k a b : Nat) (n : Int) (s : ByteArray) : Value := .agg #[.int .u8 k, .int .i64 a, .int .i64 b, .int .i64 n, .string s]
theorem R6 (k : Nat) (s : ByteArray) (w : World) (hs : s.size <= 1000000) : Calls prog 130 #[.int .u8 k, .string s] w fun e w' => e = .returned (Jl k 0 0 0 s) ∧ Below w.heap.size w w' := by
 have H := zz (fun w => a54 s w hs);go_enter func130, ntmps130;go_wp2_with fail;refine (H.out _).mono ?_;rintro e w1 ⟨rfl, hb⟩;obtain ⟨hc, hf⟩ := Cr hb;have hz := hb.size;simp only [World.size_alloc] at hc hf hz;go_wp2;refine bodyPost_ret (v := Jl k 0 0 0 s) (by simp [results, results130, go_sem, hc]) rfl ⟨rfl, ?_⟩;have hb' := (by go_grown : Below w.heap.size w _).trans (hb.mono (by simp));go_grown
end
end
section
section
open Go.RowKit
theorem Vd (s : ByteArray) (w : World) (h0 : 0 < s.size) (r : Nat) (hr : Hid ((if Dj s.data.toList = true then 6 else if grt s[0] = true then 2 else 1) = r)) :
  Calls prog 131 #[.string s] w fun e w' => e = .returned (.int .u8 (r : Nat)) ∧ w = w' := by
 have hne := H6 s h0
 cases h1 : Dj s.data.toList with
 | true =>
  have H1 := zz (fun w => V8 s true h1 w);obtain rfl : 6 = r := by rw [<- hr.out, h1]; rfl
  clear h1 hr;go_enter func131, ntmps131;go_wp2_with fail;refine (H1.out _).mono ?_;rintro e w' ⟨rfl, rfl⟩;go_wp2;go_ret
  exact ⟨rfl, rfl⟩
 | false =>
  have H1 := zz (fun w => V8 s false h1 w)
  cases h2 : grt s[0] with
  | true =>
   have H2 := zz (fun w => K4 h2 w);obtain rfl : 2 = r := by rw [<- hr.out, h1, h2]; rfl
   clear h1 h2 hr;go_enter func131, ntmps131;go_wp2_with fail;refine (H1.out _).mono ?_;rintro e w' ⟨rfl, rfl⟩;go_wp2_with fail;refine (H2.out _).mono ?_;rintro e w' ⟨rfl, rfl⟩;go_wp2;go_ret
   exact ⟨rfl, rfl⟩
  | false =>
   have H2 := zz (fun w => K4 h2 w);obtain rfl : 1 = r := by rw [<- hr.out, h1, h2]; rfl
   clear h1 h2 hr;go_enter func131, ntmps131;go_wp2_with fail;refine (H1.out _).mono ?_;rintro e w' ⟨rfl, rfl⟩;go_wp2_with fail;refine (H2.out _).mono ?_;rintro e w' ⟨rfl, rfl⟩;go_wp2;go_ret;exact ⟨rfl, rfl⟩
theorem a7k (s : ByteArray) (w : World) (hs : s.size <= 1000000) (h0 : 0 < s.size) (T : ByteArray) (hT : Hid (bs (b1w s.data.toList) = T)) :
  Calls prog 169 #[.string s] w fun e w' => e = .returned (.string T) ∧ w = w' := by
 obtain ⟨m, hm⟩ : ∃ m, s.size - 1 = m := ⟨_, rfl⟩;have hl : (s.extract 0 m).data.toList = s.data.toList.dropLast := by rw [E8, List.dropLast_eq_take, Ad, hm]; simp
 have hsz : (s.extract 0 m).size <= 1000000 := by rw [<- Ad, hl, List.length_dropLast, Ad]; omega
 obtain ⟨n, hn⟩ : ∃ n, Bz nou s.data.toList.dropLast = n := ⟨_, rfl⟩
 have hnm : n <= s.size := by
  have := I3 nou s.data.toList.dropLast;rw [hn, List.length_dropLast, Ad] at this; omega
 have HR := zz (fun w => a0k (s.extract 0 m) hsz n (by rw [hl, hn]) w)
 have hT2 := zz (show s.extract n s.size = T by
  rw [<- hT.out, b1w, hn];apply Oq
  rw [Hg, B9])
 have hmi : (s.size : Int) - 1 = m := by omega
 have hms : m <= s.size := by omega
 clear hl hn hT hm;go_enter func169, ntmps169;go_wp2_with fail;refine (HR.out _).mono ?_;rintro e w' ⟨rfl, rfl⟩;go_wp2;go_ret;rw [<- hT2.out];exact ⟨rfl, rfl⟩
theorem J5 {l : List UInt8} (h : l.take 2 ∈ J0) : sgn l = 2 := by rw [sgn, if_pos h]
theorem Cn {l : List UInt8} (h : ¬ l.take 2 ∈ J0) (h2 : l.headD 0 ∈ Qt) : sgn l = 1 := by rw [sgn, if_neg h, if_pos h2]
theorem Yj {l : List UInt8} (h : ¬ l.take 2 ∈ J0) (h2 : ¬ l.headD 0 ∈ Qt) : sgn l = 0 := by rw [sgn, if_neg h, if_neg h2]
theorem Ra {s : ByteArray} {l : List UInt8} (h : s.data.toList = l) : (s.toList == l) = true := by rw [ByteArray.toList_eq, h]; simp
theorem Rc {l : List UInt8} (h : ¬ 1 < l.length) : ¬ l.take 2 ∈ J0 := by
 intro hm;have h6 : ∀ x ∈ J0, x.length = 2 := by decide
 have := h6 _ hm;rw [List.length_take] at this; omega
def c21 (s : ByteArray) : Prop := ¬ (1 : Int) < s.size ∨ ((2 : Int) <= s.size ∧ 2 <= s.size ∧ 1 < s.size ∧ ∃ X, s.extract 0 2 = X ∧ (X.toList == [38, 38]) = false ∧ (X.toList == [124, 124]) = false ∧ (X.toList == [61, 61]) = false ∧ (X.toList == [33, 61]) = false ∧ (X.toList == [60, 61]) = false ∧ (X.toList == [62, 61]) = false)
theorem T7 (s : ByteArray) (w : World) (h0 : 0 < s.size) (hno : ¬ s.data.toList.take 2 ∈ J0) (h : c21 s) (k : Nat) (hk : sgn s.data.toList = k) : Calls prog 135 #[.string s] w fun e w' => e = .returned (.int .i64 (k : Nat)) ∧ w = w' := by
 have hhd := C0 s h0;by_cases g0 : s[0] = 43
 ·obtain rfl : 1 = k := by rw [<- hk, Cn hno (by rw [hhd, g0]; decide)]
  have f0 : ((s[0].toNat : Int) == 43) = true := by rw [g0]; rfl
  clear hk hno hhd g0;rcases h with h2 | ⟨h2, h3, h1, X, hX, e0, e1, e2, e3, e4, e5⟩ <;> (go_enter func135, ntmps135; go_wp2; go_ret; exact ⟨rfl, rfl⟩)
 have f0 : ((s[0].toNat : Int) == 43) = false := Av (n := 43) (by decide) g0;replace g0 := zz g0;by_cases g1 : s[0] = 45
 ·obtain rfl : 1 = k := by rw [<- hk, Cn hno (by rw [hhd, g1]; decide)]
  have f1 : ((s[0].toNat : Int) == 45) = true := by rw [g1]; rfl
  clear hk hno hhd g1;rcases h with h2 | ⟨h2, h3, h1, X, hX, e0, e1, e2, e3, e4, e5⟩ <;> (go_enter func135, ntmps135; go_wp2; go_ret; exact ⟨rfl, rfl⟩)
 have f1 : ((s[0].toNat : Int) == 45) = false := Av (n := 45) (by decide) g1;replace g1 := zz g1;by_cases g2 : s[0] = 42
 ·obtain rfl : 1 = k := by rw [<- hk, Cn hno (by rw [hhd, g2]; decide)]
  have f2 : ((s[0].toNat : Int) == 42) = true := by rw [g2]; rfl
  clear hk hno hhd g2;rcases h with h2 | ⟨h2, h3, h1, X, hX, e0, e1, e2, e3, e4, e5⟩ <;> (go_enter func135, ntmps135; go_wp2; go_ret; exact ⟨rfl, rfl⟩)
 have f2 : ((s[0].toNat : Int) == 42) = false := Av (n := 42) (by decide) g2;replace g2 := zz g2;by_cases g3 : s[0] = 47
 ·obtain rfl : 1 = k := by rw [<- hk, Cn hno (by rw [hhd, g3]; decide)]
  have f3 : ((s[0].toNat : Int) == 47) = true := by rw [g3]; rfl
  clear hk hno hhd g3;rcases h with h2 | ⟨h2, h3, h1, X, hX, e0, e1, e2, e3, e4, e5⟩ <;> (go_enter func135, ntmps135; go_wp2; go_ret; exact ⟨rfl, rfl⟩)
 have f3 : ((s[0].toNat : Int) == 47) = false := Av (n := 47) (by decide) g3;replace g3 := zz g3;by_cases g4 : s[0] = 37
 ·obtain rfl : 1 = k := by rw [<- hk, Cn hno (by rw [hhd, g4]; decide)]
  have f4 : ((s[0].toNat : Int) == 37) = true := by rw [g4]; rfl
  clear hk hno hhd g4;rcases h with h2 | ⟨h2, h3, h1, X, hX, e0, e1, e2, e3, e4, e5⟩ <;> (go_enter func135, ntmps135; go_wp2; go_ret; exact ⟨rfl, rfl⟩)
 have f4 : ((s[0].toNat : Int) == 37) = false := Av (n := 37) (by decide) g4;replace g4 := zz g4;by_cases g5 : s[0] = 60
 ·obtain rfl : 1 = k := by rw [<- hk, Cn hno (by rw [hhd, g5]; decide)]
  have f5 : ((s[0].toNat : Int) == 60) = true := by rw [g5]; rfl
  clear hk hno hhd g5;rcases h with h2 | ⟨h2, h3, h1, X, hX, e0, e1, e2, e3, e4, e5⟩ <;> (go_enter func135, ntmps135; go_wp2; go_ret; exact ⟨rfl, rfl⟩)
 have f5 : ((s[0].toNat : Int) == 60) = false := Av (n := 60) (by decide) g5;replace g5 := zz g5;by_cases g6 : s[0] = 62
 ·obtain rfl : 1 = k := by rw [<- hk, Cn hno (by rw [hhd, g6]; decide)]
  have f6 : ((s[0].toNat : Int) == 62) = true := by rw [g6]; rfl
  clear hk hno hhd g6;rcases h with h2 | ⟨h2, h3, h1, X, hX, e0, e1, e2, e3, e4, e5⟩ <;> (go_enter func135, ntmps135; go_wp2; go_ret; exact ⟨rfl, rfl⟩)
 have f6 : ((s[0].toNat : Int) == 62) = false := Av (n := 62) (by decide) g6;replace g6 := zz g6;by_cases g7 : s[0] = 33
 ·obtain rfl : 1 = k := by rw [<- hk, Cn hno (by rw [hhd, g7]; decide)]
  have f7 : ((s[0].toNat : Int) == 33) = true := by rw [g7]; rfl
  clear hk hno hhd g7;rcases h with h2 | ⟨h2, h3, h1, X, hX, e0, e1, e2, e3, e4, e5⟩ <;> (go_enter func135, ntmps135; go_wp2; go_ret; exact ⟨rfl, rfl⟩)
 have f7 : ((s[0].toNat : Int) == 33) = false := Av (n := 33) (by decide) g7;replace g7 := zz g7;by_cases g8 : s[0] = 61
 ·obtain rfl : 1 = k := by rw [<- hk, Cn hno (by rw [hhd, g8]; decide)]
  have f8 : ((s[0].toNat : Int) == 61) = true := by rw [g8]; rfl
  clear hk hno hhd g8;rcases h with h2 | ⟨h2, h3, h1, X, hX, e0, e1, e2, e3, e4, e5⟩ <;> (go_enter func135, ntmps135; go_wp2; go_ret; exact ⟨rfl, rfl⟩)
 have f8 : ((s[0].toNat : Int) == 61) = false := Av (n := 61) (by decide) g8;replace g8 := zz g8;by_cases g9 : s[0] = 40
 ·obtain rfl : 1 = k := by rw [<- hk, Cn hno (by rw [hhd, g9]; decide)]
  have f9 : ((s[0].toNat : Int) == 40) = true := by rw [g9]; rfl
  clear hk hno hhd g9;rcases h with h2 | ⟨h2, h3, h1, X, hX, e0, e1, e2, e3, e4, e5⟩ <;> (go_enter func135, ntmps135; go_wp2; go_ret; exact ⟨rfl, rfl⟩)
 have f9 : ((s[0].toNat : Int) == 40) = false := Av (n := 40) (by decide) g9;replace g9 := zz g9;by_cases g10 : s[0] = 41
 ·obtain rfl : 1 = k := by rw [<- hk, Cn hno (by rw [hhd, g10]; decide)]
  have f10 : ((s[0].toNat : Int) == 41) = true := by rw [g10]; rfl
  clear hk hno hhd g10;rcases h with h2 | ⟨h2, h3, h1, X, hX, e0, e1, e2, e3, e4, e5⟩ <;> (go_enter func135, ntmps135; go_wp2; go_ret; exact ⟨rfl, rfl⟩)
 have f10 : ((s[0].toNat : Int) == 41) = false := Av (n := 41) (by decide) g10;replace g10 := zz g10;by_cases g11 : s[0] = 123
 ·obtain rfl : 1 = k := by rw [<- hk, Cn hno (by rw [hhd, g11]; decide)]
  have f11 : ((s[0].toNat : Int) == 123) = true := by rw [g11]; rfl
  clear hk hno hhd g11;rcases h with h2 | ⟨h2, h3, h1, X, hX, e0, e1, e2, e3, e4, e5⟩ <;> (go_enter func135, ntmps135; go_wp2; go_ret; exact ⟨rfl, rfl⟩)
 have f11 : ((s[0].toNat : Int) == 123) = false := Av (n := 123) (by decide) g11;replace g11 := zz g11;by_cases g12 : s[0] = 125
 ·obtain rfl : 1 = k := by rw [<- hk, Cn hno (by rw [hhd, g12]; decide)]
  have f12 : ((s[0].toNat : Int) == 125) = true := by rw [g12]; rfl
  clear hk hno hhd g12;rcases h with h2 | ⟨h2, h3, h1, X, hX, e0, e1, e2, e3, e4, e5⟩ <;> (go_enter func135, ntmps135; go_wp2; go_ret; exact ⟨rfl, rfl⟩)
 have f12 : ((s[0].toNat : Int) == 125) = false := Av (n := 125) (by decide) g12;replace g12 := zz g12;by_cases g13 : s[0] = 91
 ·obtain rfl : 1 = k := by rw [<- hk, Cn hno (by rw [hhd, g13]; decide)]
  have f13 : ((s[0].toNat : Int) == 91) = true := by rw [g13]; rfl
  clear hk hno hhd g13;rcases h with h2 | ⟨h2, h3, h1, X, hX, e0, e1, e2, e3, e4, e5⟩ <;> (go_enter func135, ntmps135; go_wp2; go_ret; exact ⟨rfl, rfl⟩)
 have f13 : ((s[0].toNat : Int) == 91) = false := Av (n := 91) (by decide) g13;replace g13 := zz g13;by_cases g14 : s[0] = 93
 ·obtain rfl : 1 = k := by rw [<- hk, Cn hno (by rw [hhd, g14]; decide)]
  have f14 : ((s[0].toNat : Int) == 93) = true := by rw [g14]; rfl
  clear hk hno hhd g14;rcases h with h2 | ⟨h2, h3, h1, X, hX, e0, e1, e2, e3, e4, e5⟩ <;> (go_enter func135, ntmps135; go_wp2; go_ret; exact ⟨rfl, rfl⟩)
 have f14 : ((s[0].toNat : Int) == 93) = false := Av (n := 93) (by decide) g14;replace g14 := zz g14;by_cases g15 : s[0] = 44
 ·obtain rfl : 1 = k := by rw [<- hk, Cn hno (by rw [hhd, g15]; decide)]
  have f15 : ((s[0].toNat : Int) == 44) = true := by rw [g15]; rfl
  clear hk hno hhd g15;rcases h with h2 | ⟨h2, h3, h1, X, hX, e0, e1, e2, e3, e4, e5⟩ <;> (go_enter func135, ntmps135; go_wp2; go_ret; exact ⟨rfl, rfl⟩)
 have f15 : ((s[0].toNat : Int) == 44) = false := Av (n := 44) (by decide) g15;replace g15 := zz g15;by_cases g16 : s[0] = 59
 ·obtain rfl : 1 = k := by rw [<- hk, Cn hno (by rw [hhd, g16]; decide)]
  have f16 : ((s[0].toNat : Int) == 59) = true := by rw [g16]; rfl
  clear hk hno hhd g16;rcases h with h2 | ⟨h2, h3, h1, X, hX, e0, e1, e2, e3, e4, e5⟩ <;> (go_enter func135, ntmps135; go_wp2; go_ret; exact ⟨rfl, rfl⟩)
 have f16 : ((s[0].toNat : Int) == 59) = false := Av (n := 59) (by decide) g16;replace g16 := zz g16;by_cases g17 : s[0] = 58
 ·obtain rfl : 1 = k := by rw [<- hk, Cn hno (by rw [hhd, g17]; decide)]
  have f17 : ((s[0].toNat : Int) == 58) = true := by rw [g17]; rfl
  clear hk hno hhd g17;rcases h with h2 | ⟨h2, h3, h1, X, hX, e0, e1, e2, e3, e4, e5⟩ <;> (go_enter func135, ntmps135; go_wp2; go_ret; exact ⟨rfl, rfl⟩)
 have f17 : ((s[0].toNat : Int) == 58) = false := Av (n := 58) (by decide) g17;replace g17 := zz g17;by_cases g18 : s[0] = 46
 ·obtain rfl : 1 = k := by rw [<- hk, Cn hno (by rw [hhd, g18]; decide)]
  have f18 : ((s[0].toNat : Int) == 46) = true := by rw [g18]; rfl
  clear hk hno hhd g18;rcases h with h2 | ⟨h2, h3, h1, X, hX, e0, e1, e2, e3, e4, e5⟩ <;> (go_enter func135, ntmps135; go_wp2; go_ret; exact ⟨rfl, rfl⟩)
 have f18 : ((s[0].toNat : Int) == 46) = false := Av (n := 46) (by decide) g18;replace g18 := zz g18;obtain rfl : 0 = k := by rw [<- hk, Yj hno (by rw [hhd]; simp [Qt, g0.out, g1.out, g2.out, g3.out, g4.out, g5.out, g6.out, g7.out, g8.out, g9.out, g10.out, g11.out, g12.out, g13.out, g14.out, g15.out, g16.out, g17.out, g18.out])]
 clear hk hno hhd;rcases h with h2 | ⟨h2, h3, h1, X, hX, e0, e1, e2, e3, e4, e5⟩ <;> (go_enter func135, ntmps135; go_wp2; go_ret; exact ⟨rfl, rfl⟩)
theorem Nq (s : ByteArray) (w : World) (h0 : 0 < s.size) : Calls prog 135 #[.string s] w fun e w' => e = .returned (.int .i64 (sgn s.data.toList : Nat)) ∧ w = w' := by
 obtain ⟨k, hk⟩ : ∃ k, sgn s.data.toList = k := ⟨_, rfl⟩;rw [hk];by_cases h1 : 1 < s.size
 ·obtain ⟨X, hX⟩ : ∃ X, s.extract 0 2 = X := ⟨_, rfl⟩;have hX2 : s.data.toList.take 2 = X.data.toList := by rw [<- hX, E8]; simp
  have h2 : (2 : Int) <= s.size := by omega
  have h3 : 2 <= s.size := by omega
  by_cases q0 : X.data.toList = [38, 38]
  ·obtain rfl : 2 = k := by rw [<- hk, J5 (by rw [hX2, q0]; decide)]
   have e0 : (X.toList == [38, 38]) = true := Ra q0;clear hk hX2 q0;go_enter func135, ntmps135; go_wp2; go_ret; exact ⟨rfl, rfl⟩
  have e0 : (X.toList == [38, 38]) = false := D2 q0;replace q0 := zz q0;by_cases q1 : X.data.toList = [124, 124]
  ·obtain rfl : 2 = k := by rw [<- hk, J5 (by rw [hX2, q1]; decide)]
   have e1 : (X.toList == [124, 124]) = true := Ra q1;clear hk hX2 q1;go_enter func135, ntmps135; go_wp2; go_ret; exact ⟨rfl, rfl⟩
  have e1 : (X.toList == [124, 124]) = false := D2 q1;replace q1 := zz q1;by_cases q2 : X.data.toList = [61, 61]
  ·obtain rfl : 2 = k := by rw [<- hk, J5 (by rw [hX2, q2]; decide)]
   have e2 : (X.toList == [61, 61]) = true := Ra q2;clear hk hX2 q2;go_enter func135, ntmps135; go_wp2; go_ret; exact ⟨rfl, rfl⟩
  have e2 : (X.toList == [61, 61]) = false := D2 q2;replace q2 := zz q2;by_cases q3 : X.data.toList = [33, 61]
  ·obtain rfl : 2 = k := by rw [<- hk, J5 (by rw [hX2, q3]; decide)]
   have e3 : (X.toList == [33, 61]) = true := Ra q3;clear hk hX2 q3;go_enter func135, ntmps135; go_wp2; go_ret; exact ⟨rfl, rfl⟩
  have e3 : (X.toList == [33, 61]) = false := D2 q3;replace q3 := zz q3;by_cases q4 : X.data.toList = [60, 61]
  ·obtain rfl : 2 = k := by rw [<- hk, J5 (by rw [hX2, q4]; decide)]
   have e4 : (X.toList == [60, 61]) = true := Ra q4;clear hk hX2 q4;go_enter func135, ntmps135; go_wp2; go_ret; exact ⟨rfl, rfl⟩
  have e4 : (X.toList == [60, 61]) = false := D2 q4;replace q4 := zz q4;by_cases q5 : X.data.toList = [62, 61]
  ·obtain rfl : 2 = k := by rw [<- hk, J5 (by rw [hX2, q5]; decide)]
   have e5 : (X.toList == [62, 61]) = true := Ra q5;clear hk hX2 q5;go_enter func135, ntmps135; go_wp2; go_ret; exact ⟨rfl, rfl⟩
  have e5 : (X.toList == [62, 61]) = false := D2 q5;replace q5 := zz q5;exact T7 s w h0 (by simp [hX2, J0, q0.out, q1.out, q2.out, q3.out, q4.out, q5.out]) (.inr ⟨h2, h3, h1, X, hX, e0, e1, e2, e3, e4, e5⟩) k hk
 ·exact T7 s w h0 (Rc (by rw [Ad]; exact h1)) (.inl (by omega)) k hk
theorem Wq (s : ByteArray) (h0 : 0 < s.size) (n : Nat) (hn : sgn s.data.toList = n) (w : World) : Calls prog 135 #[.string s] w fun e w' => e = .returned (.int .i64 (n : Nat)) ∧ w = w' := hn ▸ Nq s w h0
end
end
section
section
open Go.RowKit
abbrev b6o (o : One) : Value := .tuple #[Jl o.kind 0 0 o.num (bs o.text), .int .i64 (o.size : Nat), .int .i64 o.err]
abbrev N6 (e : Int) : Value := .tuple #[Jl 0 0 0 0 { data := #[] }, .int .i64 0, .int .i64 e]
theorem b89 (s X D Y : ByteArray) (w : World) (k k2 r : Nat) (n e : Int) (hs : s.size <= 100000) (hks : k <= s.size) (hk2 : (k : Int) + 1 = k2) (hk3 : k2 <= s.size) (hk : k < s.size) (e105 : ((s[k].toNat : Int) == 105) = true) (hr : 0 < r) (hX : s.extract 0 k = X) (hY : s.extract k2 s.size = Y)
  (H16a : Hid (∀ w, Calls prog 94 #[.string s, .func (.func 132) #[] #[]] w fun e w' => e = .returned (.int .i64 (k : Nat)) ∧ w = w'))
  (H37 : Hid (∀ w, Calls prog 169 #[.string X] w fun e w' => e = .returned (.string D) ∧ w = w'))
  (H16b : Hid (∀ w, Calls prog 94 #[.string Y, .func (.func 129) #[] #[]] w fun e w' => e = .returned (.int .i64 (r : Nat)) ∧ w = w'))
  (H38 : Hid (∀ w, Calls prog 170 #[.string D] w fun x w' => x = .returned (.tuple #[.int .i64 n, .int .i64 e]) ∧ w = w')) :
  Calls prog 133 #[.string s] w fun x w' => x = .returned (N6 4) ∧ Below w.heap.size w w' := by
 have hr2 : (0 : Int) < r := by omega
 go_enter func133, ntmps133;go_wp2_with fail;refine (H16a.out _).mono ?_;rintro _ w' ⟨rfl, rfl⟩;go_wp2_with fail;refine (H37.out _).mono ?_;rintro _ w' ⟨rfl, rfl⟩;go_wp2_with fail;refine (H16b.out _).mono ?_;rintro _ w' ⟨rfl, rfl⟩;go_wp2;refine bodyPost_ret (v := N6 4) (by simp [results, results133, go_sem]) rfl ⟨rfl, ?_⟩;go_grown
theorem b87 (s X D Y : ByteArray) (w : World) (k k2 r : Nat) (n e : Int) (hs : s.size <= 100000) (hks : k <= s.size) (hk2 : (k : Int) + 1 = k2) (hk3 : k2 <= s.size) (hk : k < s.size) (e105 : ((s[k].toNat : Int) == 105) = true) (hr : r = 0) (he : (e != 0) = true) (hX : s.extract 0 k = X) (hY : s.extract k2 s.size = Y)
  (H16a : Hid (∀ w, Calls prog 94 #[.string s, .func (.func 132) #[] #[]] w fun e w' => e = .returned (.int .i64 (k : Nat)) ∧ w = w'))
  (H37 : Hid (∀ w, Calls prog 169 #[.string X] w fun e w' => e = .returned (.string D) ∧ w = w'))
  (H16b : Hid (∀ w, Calls prog 94 #[.string Y, .func (.func 129) #[] #[]] w fun e w' => e = .returned (.int .i64 (r : Nat)) ∧ w = w'))
  (H38 : Hid (∀ w, Calls prog 170 #[.string D] w fun x w' => x = .returned (.tuple #[.int .i64 n, .int .i64 e]) ∧ w = w')) :
  Calls prog 133 #[.string s] w fun x w' => x = .returned (N6 14) ∧ Below w.heap.size w w' := by
 subst hr;go_enter func133, ntmps133;go_wp2_with fail;refine (H16a.out _).mono ?_;rintro _ w' ⟨rfl, rfl⟩;go_wp2_with fail;refine (H37.out _).mono ?_;rintro _ w' ⟨rfl, rfl⟩;go_wp2_with fail;refine (H16b.out _).mono ?_;rintro _ w' ⟨rfl, rfl⟩;go_wp2_with fail;refine (H38.out _).mono ?_;rintro _ w' ⟨rfl, rfl⟩;go_wp2;refine bodyPost_ret (v := N6 14) (by simp [results, results133, go_sem]) rfl ⟨rfl, ?_⟩;go_grown
theorem b88 (s X D Y : ByteArray) (w : World) (k k2 r : Nat) (n e : Int) (hs : s.size <= 100000) (hks : k <= s.size) (hk2 : (k : Int) + 1 = k2) (hk3 : k2 <= s.size) (hk : k < s.size) (e105 : ((s[k].toNat : Int) == 105) = true) (hr : r = 0) (he : (e != 0) = false) (hn : 8388607 < n) (hX : s.extract 0 k = X) (hY : s.extract k2 s.size = Y)
  (H16a : Hid (∀ w, Calls prog 94 #[.string s, .func (.func 132) #[] #[]] w fun e w' => e = .returned (.int .i64 (k : Nat)) ∧ w = w'))
  (H37 : Hid (∀ w, Calls prog 169 #[.string X] w fun e w' => e = .returned (.string D) ∧ w = w'))
  (H16b : Hid (∀ w, Calls prog 94 #[.string Y, .func (.func 129) #[] #[]] w fun e w' => e = .returned (.int .i64 (r : Nat)) ∧ w = w'))
  (H38 : Hid (∀ w, Calls prog 170 #[.string D] w fun x w' => x = .returned (.tuple #[.int .i64 n, .int .i64 e]) ∧ w = w')) :
  Calls prog 133 #[.string s] w fun x w' => x = .returned (N6 14) ∧ Below w.heap.size w w' := by
 subst hr;go_enter func133, ntmps133;go_wp2_with fail;refine (H16a.out _).mono ?_;rintro _ w' ⟨rfl, rfl⟩;go_wp2_with fail;refine (H37.out _).mono ?_;rintro _ w' ⟨rfl, rfl⟩;go_wp2_with fail;refine (H16b.out _).mono ?_;rintro _ w' ⟨rfl, rfl⟩;go_wp2_with fail;refine (H38.out _).mono ?_;rintro _ w' ⟨rfl, rfl⟩;go_wp2;refine bodyPost_ret (v := N6 14) (by simp [results, results133, go_sem]) rfl ⟨rfl, ?_⟩;go_grown
theorem b86 (s X D Y : ByteArray) (w : World) (k k2 r : Nat) (n e : Int) (hs : s.size <= 100000) (hks : k <= s.size) (hk2 : (k : Int) + 1 = k2) (hk3 : k2 <= s.size) (hk : k < s.size) (e105 : ((s[k].toNat : Int) == 105) = true) (hr : r = 0) (he : (e != 0) = false) (hn : ¬ 8388607 < n) (hX : s.extract 0 k = X) (hY : s.extract k2 s.size = Y)
  (H16a : Hid (∀ w, Calls prog 94 #[.string s, .func (.func 132) #[] #[]] w fun e w' => e = .returned (.int .i64 (k : Nat)) ∧ w = w'))
  (H37 : Hid (∀ w, Calls prog 169 #[.string X] w fun e w' => e = .returned (.string D) ∧ w = w'))
  (H16b : Hid (∀ w, Calls prog 94 #[.string Y, .func (.func 129) #[] #[]] w fun e w' => e = .returned (.int .i64 (r : Nat)) ∧ w = w'))
  (H38 : Hid (∀ w, Calls prog 170 #[.string D] w fun x w' => x = .returned (.tuple #[.int .i64 n, .int .i64 e]) ∧ w = w')) :
  Calls prog 133 #[.string s] w fun x w' => x = .returned (.tuple #[Jl 4 0 0 n { data := #[] }, .int .i64 (k2 : Nat), .int .i64 0]) ∧ Below w.heap.size w w' := by
 subst hr;go_enter func133, ntmps133;go_wp2_with fail;refine (H16a.out _).mono ?_;rintro _ w' ⟨rfl, rfl⟩;go_wp2_with fail;refine (H37.out _).mono ?_;rintro _ w' ⟨rfl, rfl⟩;go_wp2_with fail;refine (H16b.out _).mono ?_;rintro _ w' ⟨rfl, rfl⟩;go_wp2_with fail;refine (H38.out _).mono ?_;rintro _ w' ⟨rfl, rfl⟩;go_wp2;refine bodyPost_ret (v := .tuple #[Jl 4 0 0 n { data := #[] }, .int .i64 (k2 : Nat), .int .i64 0]) (by simp [results, results133, go_sem]) rfl ⟨rfl, ?_⟩;go_grown
theorem b81 (s X D Y : ByteArray) (w : World) (k r : Nat) (n e : Int) (hs : s.size <= 100000) (hks : k <= s.size) (hk : k < s.size) (e105 : ((s[k].toNat : Int) == 105) = false) (hr : 0 < r) (hX : s.extract 0 k = X) (hY : s.extract k s.size = Y)
  (H16a : Hid (∀ w, Calls prog 94 #[.string s, .func (.func 132) #[] #[]] w fun e w' => e = .returned (.int .i64 (k : Nat)) ∧ w = w'))
  (H37 : Hid (∀ w, Calls prog 169 #[.string X] w fun e w' => e = .returned (.string D) ∧ w = w'))
  (H16b : Hid (∀ w, Calls prog 94 #[.string Y, .func (.func 129) #[] #[]] w fun e w' => e = .returned (.int .i64 (r : Nat)) ∧ w = w'))
  (H38 : Hid (∀ w, Calls prog 170 #[.string D] w fun x w' => x = .returned (.tuple #[.int .i64 n, .int .i64 e]) ∧ w = w')) :
  Calls prog 133 #[.string s] w fun x w' => x = .returned (N6 4) ∧ Below w.heap.size w w' := by
 have hr2 : (0 : Int) < r := by omega
 go_enter func133, ntmps133;go_wp2_with fail;refine (H16a.out _).mono ?_;rintro _ w' ⟨rfl, rfl⟩;go_wp2_with fail;refine (H37.out _).mono ?_;rintro _ w' ⟨rfl, rfl⟩;go_wp2_with fail;refine (H16b.out _).mono ?_;rintro _ w' ⟨rfl, rfl⟩;go_wp2;refine bodyPost_ret (v := N6 4) (by simp [results, results133, go_sem]) rfl ⟨rfl, ?_⟩;go_grown
theorem b8z (s X D Y : ByteArray) (w : World) (k r : Nat) (n e : Int) (hs : s.size <= 100000) (hks : k <= s.size) (hk : k < s.size) (e105 : ((s[k].toNat : Int) == 105) = false) (hr : r = 0) (he : (e != 0) = true) (hX : s.extract 0 k = X) (hY : s.extract k s.size = Y)
  (H16a : Hid (∀ w, Calls prog 94 #[.string s, .func (.func 132) #[] #[]] w fun e w' => e = .returned (.int .i64 (k : Nat)) ∧ w = w'))
  (H37 : Hid (∀ w, Calls prog 169 #[.string X] w fun e w' => e = .returned (.string D) ∧ w = w'))
  (H16b : Hid (∀ w, Calls prog 94 #[.string Y, .func (.func 129) #[] #[]] w fun e w' => e = .returned (.int .i64 (r : Nat)) ∧ w = w'))
  (H38 : Hid (∀ w, Calls prog 170 #[.string D] w fun x w' => x = .returned (.tuple #[.int .i64 n, .int .i64 e]) ∧ w = w')) :
  Calls prog 133 #[.string s] w fun x w' => x = .returned (N6 14) ∧ Below w.heap.size w w' := by
 subst hr;go_enter func133, ntmps133;go_wp2_with fail;refine (H16a.out _).mono ?_;rintro _ w' ⟨rfl, rfl⟩;go_wp2_with fail;refine (H37.out _).mono ?_;rintro _ w' ⟨rfl, rfl⟩;go_wp2_with fail;refine (H16b.out _).mono ?_;rintro _ w' ⟨rfl, rfl⟩;go_wp2_with fail;refine (H38.out _).mono ?_;rintro _ w' ⟨rfl, rfl⟩;go_wp2;refine bodyPost_ret (v := N6 14) (by simp [results, results133, go_sem]) rfl ⟨rfl, ?_⟩;go_grown
theorem b80 (s X D Y : ByteArray) (w : World) (k r : Nat) (n e : Int) (hs : s.size <= 100000) (hks : k <= s.size) (hk : k < s.size) (e105 : ((s[k].toNat : Int) == 105) = false) (hr : r = 0) (he : (e != 0) = false) (hn : 9223372036854775807 < n) (hX : s.extract 0 k = X) (hY : s.extract k s.size = Y)
  (H16a : Hid (∀ w, Calls prog 94 #[.string s, .func (.func 132) #[] #[]] w fun e w' => e = .returned (.int .i64 (k : Nat)) ∧ w = w'))
  (H37 : Hid (∀ w, Calls prog 169 #[.string X] w fun e w' => e = .returned (.string D) ∧ w = w'))
  (H16b : Hid (∀ w, Calls prog 94 #[.string Y, .func (.func 129) #[] #[]] w fun e w' => e = .returned (.int .i64 (r : Nat)) ∧ w = w'))
  (H38 : Hid (∀ w, Calls prog 170 #[.string D] w fun x w' => x = .returned (.tuple #[.int .i64 n, .int .i64 e]) ∧ w = w')) :
  Calls prog 133 #[.string s] w fun x w' => x = .returned (N6 14) ∧ Below w.heap.size w w' := by
 subst hr;go_enter func133, ntmps133;go_wp2_with fail;refine (H16a.out _).mono ?_;rintro _ w' ⟨rfl, rfl⟩;go_wp2_with fail;refine (H37.out _).mono ?_;rintro _ w' ⟨rfl, rfl⟩;go_wp2_with fail;refine (H16b.out _).mono ?_;rintro _ w' ⟨rfl, rfl⟩;go_wp2_with fail;refine (H38.out _).mono ?_;rintro _ w' ⟨rfl, rfl⟩;go_wp2;refine bodyPost_ret (v := N6 14) (by simp [results, results133, go_sem]) rfl ⟨rfl, ?_⟩;go_grown
theorem b8y (s X D Y : ByteArray) (w : World) (k r : Nat) (n e : Int) (hs : s.size <= 100000) (hks : k <= s.size) (hk : k < s.size) (e105 : ((s[k].toNat : Int) == 105) = false) (hr : r = 0) (he : (e != 0) = false) (hn : ¬ 9223372036854775807 < n) (hX : s.extract 0 k = X) (hY : s.extract k s.size = Y)
  (H16a : Hid (∀ w, Calls prog 94 #[.string s, .func (.func 132) #[] #[]] w fun e w' => e = .returned (.int .i64 (k : Nat)) ∧ w = w'))
  (H37 : Hid (∀ w, Calls prog 169 #[.string X] w fun e w' => e = .returned (.string D) ∧ w = w'))
  (H16b : Hid (∀ w, Calls prog 94 #[.string Y, .func (.func 129) #[] #[]] w fun e w' => e = .returned (.int .i64 (r : Nat)) ∧ w = w'))
  (H38 : Hid (∀ w, Calls prog 170 #[.string D] w fun x w' => x = .returned (.tuple #[.int .i64 n, .int .i64 e]) ∧ w = w')) :
  Calls prog 133 #[.string s] w fun x w' => x = .returned (.tuple #[Jl 3 0 0 n { data := #[] }, .int .i64 (k : Nat), .int .i64 0]) ∧ Below w.heap.size w w' := by
 subst hr;go_enter func133, ntmps133;go_wp2_with fail;refine (H16a.out _).mono ?_;rintro _ w' ⟨rfl, rfl⟩;go_wp2_with fail;refine (H37.out _).mono ?_;rintro _ w' ⟨rfl, rfl⟩;go_wp2_with fail;refine (H16b.out _).mono ?_;rintro _ w' ⟨rfl, rfl⟩;go_wp2_with fail;refine (H38.out _).mono ?_;rintro _ w' ⟨rfl, rfl⟩;go_wp2;refine bodyPost_ret (v := .tuple #[Jl 3 0 0 n { data := #[] }, .int .i64 (k : Nat), .int .i64 0]) (by simp [results, results133, go_sem]) rfl ⟨rfl, ?_⟩;go_grown
theorem b85 (s X D Y : ByteArray) (w : World) (k r : Nat) (n e : Int) (hs : s.size <= 100000) (hks : k <= s.size) (hk : ¬ (k : Int) < s.size) (hr : 0 < r) (hX : s.extract 0 k = X) (hY : s.extract k s.size = Y)
  (H16a : Hid (∀ w, Calls prog 94 #[.string s, .func (.func 132) #[] #[]] w fun e w' => e = .returned (.int .i64 (k : Nat)) ∧ w = w'))
  (H37 : Hid (∀ w, Calls prog 169 #[.string X] w fun e w' => e = .returned (.string D) ∧ w = w'))
  (H16b : Hid (∀ w, Calls prog 94 #[.string Y, .func (.func 129) #[] #[]] w fun e w' => e = .returned (.int .i64 (r : Nat)) ∧ w = w'))
  (H38 : Hid (∀ w, Calls prog 170 #[.string D] w fun x w' => x = .returned (.tuple #[.int .i64 n, .int .i64 e]) ∧ w = w')) :
  Calls prog 133 #[.string s] w fun x w' => x = .returned (N6 4) ∧ Below w.heap.size w w' := by
 have hr2 : (0 : Int) < r := by omega
 go_enter func133, ntmps133;go_wp2_with fail;refine (H16a.out _).mono ?_;rintro _ w' ⟨rfl, rfl⟩;go_wp2_with fail;refine (H37.out _).mono ?_;rintro _ w' ⟨rfl, rfl⟩;go_wp2_with fail;refine (H16b.out _).mono ?_;rintro _ w' ⟨rfl, rfl⟩;go_wp2;refine bodyPost_ret (v := N6 4) (by simp [results, results133, go_sem]) rfl ⟨rfl, ?_⟩;go_grown
theorem b83 (s X D Y : ByteArray) (w : World) (k r : Nat) (n e : Int) (hs : s.size <= 100000) (hks : k <= s.size) (hk : ¬ (k : Int) < s.size) (hr : r = 0) (he : (e != 0) = true) (hX : s.extract 0 k = X) (hY : s.extract k s.size = Y)
  (H16a : Hid (∀ w, Calls prog 94 #[.string s, .func (.func 132) #[] #[]] w fun e w' => e = .returned (.int .i64 (k : Nat)) ∧ w = w'))
  (H37 : Hid (∀ w, Calls prog 169 #[.string X] w fun e w' => e = .returned (.string D) ∧ w = w'))
  (H16b : Hid (∀ w, Calls prog 94 #[.string Y, .func (.func 129) #[] #[]] w fun e w' => e = .returned (.int .i64 (r : Nat)) ∧ w = w'))
  (H38 : Hid (∀ w, Calls prog 170 #[.string D] w fun x w' => x = .returned (.tuple #[.int .i64 n, .int .i64 e]) ∧ w = w')) :
  Calls prog 133 #[.string s] w fun x w' => x = .returned (N6 14) ∧ Below w.heap.size w w' := by
 subst hr;go_enter func133, ntmps133;go_wp2_with fail;refine (H16a.out _).mono ?_;rintro _ w' ⟨rfl, rfl⟩;go_wp2_with fail;refine (H37.out _).mono ?_;rintro _ w' ⟨rfl, rfl⟩;go_wp2_with fail;refine (H16b.out _).mono ?_;rintro _ w' ⟨rfl, rfl⟩;go_wp2_with fail;refine (H38.out _).mono ?_;rintro _ w' ⟨rfl, rfl⟩;go_wp2;refine bodyPost_ret (v := N6 14) (by simp [results, results133, go_sem]) rfl ⟨rfl, ?_⟩;go_grown
theorem b84 (s X D Y : ByteArray) (w : World) (k r : Nat) (n e : Int) (hs : s.size <= 100000) (hks : k <= s.size) (hk : ¬ (k : Int) < s.size) (hr : r = 0) (he : (e != 0) = false) (hn : 9223372036854775807 < n) (hX : s.extract 0 k = X) (hY : s.extract k s.size = Y)
  (H16a : Hid (∀ w, Calls prog 94 #[.string s, .func (.func 132) #[] #[]] w fun e w' => e = .returned (.int .i64 (k : Nat)) ∧ w = w'))
  (H37 : Hid (∀ w, Calls prog 169 #[.string X] w fun e w' => e = .returned (.string D) ∧ w = w'))
  (H16b : Hid (∀ w, Calls prog 94 #[.string Y, .func (.func 129) #[] #[]] w fun e w' => e = .returned (.int .i64 (r : Nat)) ∧ w = w'))
  (H38 : Hid (∀ w, Calls prog 170 #[.string D] w fun x w' => x = .returned (.tuple #[.int .i64 n, .int .i64 e]) ∧ w = w')) :
  Calls prog 133 #[.string s] w fun x w' => x = .returned (N6 14) ∧ Below w.heap.size w w' := by
 subst hr;go_enter func133, ntmps133;go_wp2_with fail;refine (H16a.out _).mono ?_;rintro _ w' ⟨rfl, rfl⟩;go_wp2_with fail;refine (H37.out _).mono ?_;rintro _ w' ⟨rfl, rfl⟩;go_wp2_with fail;refine (H16b.out _).mono ?_;rintro _ w' ⟨rfl, rfl⟩;go_wp2_with fail;refine (H38.out _).mono ?_;rintro _ w' ⟨rfl, rfl⟩;go_wp2;refine bodyPost_ret (v := N6 14) (by simp [results, results133, go_sem]) rfl ⟨rfl, ?_⟩;go_grown
theorem b82 (s X D Y : ByteArray) (w : World) (k r : Nat) (n e : Int) (hs : s.size <= 100000) (hks : k <= s.size) (hk : ¬ (k : Int) < s.size) (hr : r = 0) (he : (e != 0) = false) (hn : ¬ 9223372036854775807 < n) (hX : s.extract 0 k = X) (hY : s.extract k s.size = Y)
  (H16a : Hid (∀ w, Calls prog 94 #[.string s, .func (.func 132) #[] #[]] w fun e w' => e = .returned (.int .i64 (k : Nat)) ∧ w = w'))
  (H37 : Hid (∀ w, Calls prog 169 #[.string X] w fun e w' => e = .returned (.string D) ∧ w = w'))
  (H16b : Hid (∀ w, Calls prog 94 #[.string Y, .func (.func 129) #[] #[]] w fun e w' => e = .returned (.int .i64 (r : Nat)) ∧ w = w'))
  (H38 : Hid (∀ w, Calls prog 170 #[.string D] w fun x w' => x = .returned (.tuple #[.int .i64 n, .int .i64 e]) ∧ w = w')) :
  Calls prog 133 #[.string s] w fun x w' => x = .returned (.tuple #[Jl 3 0 0 n { data := #[] }, .int .i64 (k : Nat), .int .i64 0]) ∧ Below w.heap.size w w' := by
 subst hr;go_enter func133, ntmps133;go_wp2_with fail;refine (H16a.out _).mono ?_;rintro _ w' ⟨rfl, rfl⟩;go_wp2_with fail;refine (H37.out _).mono ?_;rintro _ w' ⟨rfl, rfl⟩;go_wp2_with fail;refine (H16b.out _).mono ?_;rintro _ w' ⟨rfl, rfl⟩;go_wp2_with fail;refine (H38.out _).mono ?_;rintro _ w' ⟨rfl, rfl⟩;go_wp2;refine bodyPost_ret (v := .tuple #[Jl 3 0 0 n { data := #[] }, .int .i64 (k : Nat), .int .i64 0]) (by simp [results, results133, go_sem]) rfl ⟨rfl, ?_⟩;go_grown
end
end
section
section
open Go.RowKit
theorem K7 (s : ByteArray) (k : Nat) : (s.extract 0 k).data.toList = s.data.toList.take k := by rw [E8]; simp
theorem Ez (s : ByteArray) (k : Nat) (h : k <= s.size) : (s.extract 0 k).size = k := by rw [<- Ad, K7, List.length_take, Ad]; omega
theorem a0z (s : ByteArray) (w : World) (hs : s.size <= 100000) (h0 : 0 < s.size) (hd : dgt s[0] = true) :
  Calls prog 133 #[.string s] w fun x w' => x = .returned (b6o (Mh s.data.toList)) ∧ Below w.heap.size w w' := by
 have hl : s.data.toList ≠ [] := fun e => by have := Ad s; rw [e] at this; simp at this; omega
 obtain ⟨k, hk⟩ : ∃ k, Bz dgt s.data.toList = k := ⟨_, rfl⟩;have hk1 : 1 <= k := by rw [<- hk]; exact Ks (by rw [C0 s h0]; exact hd) hl
 have hks : k <= s.size := by rw [<- hk, <- Ad]; exact I3 _ _
 obtain ⟨X, hX⟩ : ∃ X, s.extract 0 k = X := ⟨_, rfl⟩;have hXl : X.data.toList = s.data.toList.take k := by rw [<- hX, K7]
 have hXs : X.size = k := by rw [<- hX, Ez s k hks]
 have hND : W9 s.data.toList = b1w X.data.toList := by rw [W9, hk, hXl]
 obtain ⟨D, hD⟩ : ∃ D, bs (b1w X.data.toList) = D := ⟨_, rfl⟩;have hDl : D.data.toList = W9 s.data.toList := by rw [<- hD, B9, hND]
 have hDs : D.size <= 100000 := by
  rw [<- Ad, hDl, hND, b1w, List.length_drop, Ad]; omega
 have H16a := zz (fun w => a0m s (by omega) k hk w);have H37 := zz (fun w => a7k X w (by omega) (by omega) D (zz hD));have H38 := zz (fun w => Nm.parse_any D w hDs);rw [hDl] at H38;obtain ⟨k2, hk2⟩ : ∃ k2, Y2 s.data.toList = k2 := ⟨_, rfl⟩;obtain ⟨Y, hY⟩ : ∃ Y, s.extract k2 s.size = Y := ⟨_, rfl⟩;have hYl : Y.data.toList = s.data.toList.drop k2 := by rw [<- hY, Hg]
 obtain ⟨r, hr⟩ : ∃ r, Bz nam (s.data.toList.drop k2) = r := ⟨_, rfl⟩;have hYs : Y.size <= 1000000 := by rw [<- Ad, hYl, List.length_drop, Ad]; omega
 have H16b := zz (fun w => Re Y hYs r (by rw [hYl]; exact hr) w);obtain ⟨e, he⟩ : ∃ e, Nm.parseE (W9 s.data.toList) = e := ⟨_, rfl⟩;obtain ⟨n, hn⟩ : ∃ n, Nm.parseN (W9 s.data.toList) = n := ⟨_, rfl⟩;rw [he, hn] at H38;unfold Mh;rw [hk2, hr, he, hn];have b1 : ¬ e = 0 -> (e != 0) = true := fun h => by simpa using h
 have b2 : e = 0 -> (e != 0) = false := fun h => by simpa using h
 cases hc : isC s.data.toList with
 | true =>
  have hkk : k2 = k + 1 := by rw [<- hk2, Y2, if_pos hc, hk]
  have hk3 : k < s.size ∧ (s.data.toList.drop k).head? = some 105 := by
   unfold isC at hc;rw [decide_eq_true_eq, hk] at hc;refine ⟨?_, hc⟩;by_cases hlt : k < s.size
   ·exact hlt
   ·rw [Co s k (by omega)] at hc; simp at hc
  have hb : s[k]'hk3.1 = 105 := by have := hk3.2; rw [Iv s k hk3.1] at this; simpa using this
  have e105 : (((s[k]'hk3.1).toNat : Int) == 105) = true := by rw [hb]; rfl
  have hM : a4a s.data.toList = 8388607 := by rw [a4a, if_pos hc]
  rw [hM, if_pos rfl];by_cases hr0 : 0 < r
  ·rw [if_pos hr0];exact b89 s X D Y w k k2 r n e hs hks (by omega) (by omega) hk3.1 e105 hr0 hX hY H16a H37 H16b H38
  ·rw [if_neg hr0];by_cases he0 : e = 0
   ·by_cases hno : 8388607 < n
    ·rw [if_pos (.inr hno)];exact b88 s X D Y w k k2 r n e hs hks (by omega) (by omega) hk3.1 e105 (by omega) (b2 he0) hno hX hY H16a H37 H16b H38
    ·rw [if_neg (fun h => h.elim (fun h => h he0) hno)];exact b86 s X D Y w k k2 r n e hs hks (by omega) (by omega) hk3.1 e105 (by omega) (b2 he0) hno hX hY H16a H37 H16b H38
   ·rw [if_pos (.inl he0)]
    exact b87 s X D Y w k k2 r n e hs hks (by omega) (by omega) hk3.1 e105 (by omega) (b1 he0) hX hY H16a H37 H16b H38
 | false =>
  have hkk : k2 = k := by rw [<- hk2, Y2, hc, hk]; rfl
  subst hkk;have hM : a4a s.data.toList = 9223372036854775807 := by rw [a4a, hc]; rfl
  rw [hM, if_neg (show ¬ (false = true) by simp)];unfold isC at hc;rw [decide_eq_false_iff_not, hk] at hc;by_cases hlt : k2 < s.size
  ·have hb : s[k2] ≠ 105 := fun h => hc (by rw [Iv s k2 hlt, h])
   have e105 : ((s[k2].toNat : Int) == 105) = false := Av (n := 105) (by decide) hb;by_cases hr0 : 0 < r
   ·rw [if_pos hr0];exact b81 s X D Y w k2 r n e hs hks hlt e105 hr0 hX hY H16a H37 H16b H38
   ·rw [if_neg hr0];by_cases he0 : e = 0
    ·by_cases hno : 9223372036854775807 < n
     ·rw [if_pos (.inr hno)];exact b80 s X D Y w k2 r n e hs hks hlt e105 (by omega) (b2 he0) hno hX hY H16a H37 H16b H38
     ·rw [if_neg (fun h => h.elim (fun h => h he0) hno)];exact b8y s X D Y w k2 r n e hs hks hlt e105 (by omega) (b2 he0) hno hX hY H16a H37 H16b H38
    ·rw [if_pos (.inl he0)];exact b8z s X D Y w k2 r n e hs hks hlt e105 (by omega) (b1 he0) hX hY H16a H37 H16b H38
  ·by_cases hr0 : 0 < r
   ·rw [if_pos hr0];exact b85 s X D Y w k2 r n e hs hks (by omega) hr0 hX hY H16a H37 H16b H38
   ·rw [if_neg hr0];by_cases he0 : e = 0
    ·by_cases hno : 9223372036854775807 < n
     ·rw [if_pos (.inr hno)];exact b84 s X D Y w k2 r n e hs hks (by omega) (by omega) (b2 he0) hno hX hY H16a H37 H16b H38
     ·rw [if_neg (fun h => h.elim (fun h => h he0) hno)];exact b82 s X D Y w k2 r n e hs hks (by omega) (by omega) (b2 he0) hno hX hY H16a H37 H16b H38
    ·rw [if_pos (.inl he0)];exact b83 s X D Y w k2 r n e hs hks (by omega) (by omega) (b1 he0) hX hY H16a H37 H16b H38
theorem b9v (s : ByteArray) (w : World) (N : Nat) (HE : Hid (∀ w, Calls prog 171 #[.string s] w fun e w' => e = .returned (.tuple #[.int .i64 (N : Nat), .bool false]) ∧ w = w')) :
  Calls prog 134 #[.string s] w fun e w' => e = .returned (N6 4) ∧ Below w.heap.size w w' := by
 go_enter func134, ntmps134;go_wp2_with fail;refine (HE.out _).mono ?_;rintro _ w' ⟨rfl, rfl⟩;go_wp2;refine bodyPost_ret (v := N6 4) (by simp [results, results134, go_sem]) rfl ⟨rfl, ?_⟩;go_grown
theorem b4w (s X T : ByteArray) (w : World) (N : Nat) (hN : N <= s.size) (hX : s.extract 0 N = X) (HE : Hid (∀ w, Calls prog 171 #[.string s] w fun e w' => e = .returned (.tuple #[.int .i64 (N : Nat), .bool true]) ∧ w = w'))
  (HU : Hid (∀ w, Calls prog 172 #[.string X] w fun e w' => e = .returned (.tuple #[.string T, .int .i64 0]) ∧ Below w.heap.size w w')) :
  Calls prog 134 #[.string s] w fun e w' => e = .returned (.tuple #[Jl 5 0 0 0 T, .int .i64 (N : Nat), .int .i64 0]) ∧ Below w.heap.size w w' := by
 go_enter func134, ntmps134;go_wp2_with fail;refine (HE.out _).mono ?_;rintro _ w' ⟨rfl, rfl⟩;go_wp2_with fail;refine (HU.out _).mono ?_;rintro _ w1 ⟨rfl, hb⟩;obtain ⟨hc, hf⟩ := Cr hb;have hz := hb.size;simp only [World.size_alloc] at hc hf hz;go_wp2;refine bodyPost_ret (v := .tuple #[Jl 5 0 0 0 T, .int .i64 (N : Nat), .int .i64 0]) (by simp [results, results134, go_sem, hc]) rfl ⟨rfl, ?_⟩;have hb' := (by go_grown : Below w.heap.size w _).trans (hb.mono (by simp));go_grown
theorem Im (t : List UInt8) : A8 (34 :: t) = ((C5 t).1, 1 + (C5 t).2.1, (C5 t).2.2) := by rw [A8]; exact if_pos rfl
theorem Pf (l : List UInt8) (h : (A8 l).2.2 = true) : ∃ t, l = 34 :: t := by
 unfold A8 at h;split at h
 ·rename_i hq
  cases l with
  | nil => simp at hq
  | cons c t => simp at hq; exact ⟨t, by rw [hq]⟩
 ·simp at h
theorem a2w : ∀ n (m : List UInt8), m.length <= n -> (C5 m).2.2 = true -> ∀ x, C5 (m.take (C5 m).2.1 ++ x) = C5 m := by
 intro n
 induction n with
 | zero =>
  intro m hm h;obtain rfl : m = [] := List.eq_nil_of_length_eq_zero (by omega)
  simp [C5, rb] at h
 | succ n ih =>
  intro m hm h x;by_cases hq : m.head? = some 34
  ·rw [Dv m hq]
   cases m with
   | nil => simp at hq
   | cons c t => exact Dv _ (by simpa using hq)
  ·by_cases hb : (rb m).2.2 = true
   ·have hs := Eu m hq hb;have hz := Hz m hb;rw [hs] at h;have hi := ih (m.drop (rb m).2.1) (by simp; omega) h x;have hg0 : rb (m.take (C5 m).2.1) = rb m := Yx m hb _ (by rw [hs]; simp);have hg : rb (m.take (C5 m).2.1 ++ x) = rb m := by rw [b11 _ _ (by rw [hg0]; exact hb), hg0]
    have hle : (rb m).2.1 <= (m.take (C5 m).2.1).length := by rw [List.length_take, hs]; simp; omega
    have hq2 : ¬ (m.take (C5 m).2.1 ++ x).head? = some 34 := by
     cases m with
     | nil => simp at hz; omega
     | cons c t =>
      have h1 : (C5 (c :: t)).2.1 = ((C5 (c :: t)).2.1 - 1) + 1 := by rw [hs]; simp; omega
      rw [h1, List.take_succ_cons];simpa using hq
    rw [Eu _ hq2 (by rw [hg]; exact hb), hg]
    have hd : (m.take (C5 m).2.1 ++ x).drop (rb m).2.1 = (m.drop (rb m).2.1).take (C5 (m.drop (rb m).2.1)).2.1 ++ x := by
     rw [List.drop_append_of_le_length hle, List.drop_take]; congr 2; rw [hs]; simp
    rw [hd, hi, <- hs]
   ·rw [Gr m hq (by simpa using hb)] at h;simp at h
theorem Sd (l : List UInt8) (h : (A8 l).2.2 = true) (x : List UInt8) : A8 (l.take (A8 l).2.1 ++ x) = A8 l := by
 obtain ⟨t, rfl⟩ := Pf l h;rw [Im] at h ⊢;have := a2w _ t (Nat.le_refl _) h x;show A8 ((34 :: t).take (1 + (C5 t).2.1) ++ x) = _;rw [show 1 + (C5 t).2.1 = (C5 t).2.1 + 1 by omega, List.take_succ_cons, List.cons_append, Im, this];simp; omega
theorem a3i (l : List UInt8) (h : (A8 l).2.2 = true) : A8 (l.take (A8 l).2.1) = A8 l := by
 have := Sd l h []
 rwa [List.append_nil] at this
theorem Xk (s : ByteArray) (w : World) (hs : s.size <= 100000) :
  Calls prog 134 #[.string s] w fun x w' => x = .returned (b6o (Ll s.data.toList)) ∧ Below w.heap.size w w' := by
 have HE := fun w => a5t s w (by omega) _ rfl
 unfold Ll
 cases hok : (A8 s.data.toList).2.2 with
 | false =>
  rw [hok] at HE;rw [if_neg (by simp)]
  exact b9v s w _ (zz HE)
 | true =>
  rw [hok] at HE;rw [if_pos rfl];obtain ⟨h1, h2, h3⟩ := N9 s.data.toList hok;rw [Ad] at h2;have ht := a3i s.data.toList hok;have HU := fun w => Wa (s.extract 0 (A8 s.data.toList).2.1) w (by rw [Ez s _ h2]; omega)
  have hu : a19 (s.extract 0 (A8 s.data.toList).2.1).data.toList = ((A8 s.data.toList).1, 0) := by
   rw [K7, a19, ht];exact if_pos ⟨hok, by rw [List.length_take, Ad]; omega⟩
  rw [hu] at HU;exact b4w s _ _ w _ h2 rfl (zz HE) (zz HU)
end
end
section
section
open Go.RowKit Go.Sort
abbrev Jz (f : Nat) (c : UInt8) (b : Bool) : Prop := ∀ w, Calls prog f #[byt c] w fun e w' => e = .returned (.bool b) ∧ w = w'
theorem Z9 (s X : ByteArray) (w : World) (h0 : 0 < s.size) (hs : s.size <= 100000) (n k : Nat) (hn : n <= s.size) (hX : s.extract 0 n = X)
  (H25 : Hid (Jz 127 s[0] true))
  (H16 : Hid (∀ w, Calls prog 94 #[.string s, .func (.func 129) #[] #[]] w fun e w' => e = .returned (.int .i64 (n : Nat)) ∧ w = w'))
  (H29 : Hid (∀ w, Calls prog 131 #[.string X] w fun e w' => e = .returned (.int .u8 (k : Nat)) ∧ w = w'))
  (H28 : Hid (∀ w, Calls prog 130 #[.int .u8 (k : Nat), .string X] w fun e w' => e = .returned (Jl k 0 0 0 X) ∧ Below w.heap.size w w')) :
  Calls prog 96 #[.string s] w fun x w' => x = .returned (.tuple #[Jl k 0 0 0 X, .int .i64 (n : Nat), .int .i64 0]) ∧ Below w.heap.size w w' := by
 have hne := H6 s h0;go_enter func96, ntmps96;go_wp2_with fail;refine (H25.out _).mono ?_;rintro e w' ⟨rfl, rfl⟩;go_wp2_with fail;refine (H16.out _).mono ?_;rintro e w' ⟨rfl, rfl⟩;go_wp2_with fail
 go_region_with (first
  | (go_at_call 131; refine (H29.out _).mono ?_; rintro e w' ⟨rfl, rfl⟩)
  | (go_at_call 130; refine (H28.out _).mono ?_; rintro e w1 ⟨rfl, hb⟩; obtain ⟨hc, hf⟩ := Cr hb; have hz := hb.size; simp only [World.size_alloc, World.size_drew] at hc hf hz))
 go_wp2;refine bodyPost_ret (v := .tuple #[Jl k 0 0 0 X, .int .i64 (n : Nat), .int .i64 0]) (by simp [results, results96, go_sem, hc]) rfl ⟨rfl, ?_⟩;have hb' := (by go_grown : Below w.heap.size w _).trans (hb.mono (by simp));go_grown
theorem a0a (s X : ByteArray) (w : World) (h0 : 0 < s.size) (hs : s.size <= 100000) (n k : Nat) (hn : n <= s.size) (hX : s.extract 0 n = X)
  (H25 : Hid (Jz 127 s[0] false)) (H26 : Hid (Jz 128 s[0] true))
  (H16 : Hid (∀ w, Calls prog 94 #[.string s, .func (.func 129) #[] #[]] w fun e w' => e = .returned (.int .i64 (n : Nat)) ∧ w = w'))
  (H29 : Hid (∀ w, Calls prog 131 #[.string X] w fun e w' => e = .returned (.int .u8 (k : Nat)) ∧ w = w'))
  (H28 : Hid (∀ w, Calls prog 130 #[.int .u8 (k : Nat), .string X] w fun e w' => e = .returned (Jl k 0 0 0 X) ∧ Below w.heap.size w w')) :
  Calls prog 96 #[.string s] w fun x w' => x = .returned (.tuple #[Jl k 0 0 0 X, .int .i64 (n : Nat), .int .i64 0]) ∧ Below w.heap.size w w' := by
 have hne := H6 s h0;go_enter func96, ntmps96;go_wp2_with fail;refine (H25.out _).mono ?_;rintro e w' ⟨rfl, rfl⟩;go_wp2_with fail;refine (H26.out _).mono ?_;rintro e w' ⟨rfl, rfl⟩;go_wp2_with fail;refine (H16.out _).mono ?_;rintro e w' ⟨rfl, rfl⟩;go_wp2_with fail
 go_region_with (first
  | (go_at_call 131; refine (H29.out _).mono ?_; rintro e w' ⟨rfl, rfl⟩)
  | (go_at_call 130; refine (H28.out _).mono ?_; rintro e w1 ⟨rfl, hb⟩; obtain ⟨hc, hf⟩ := Cr hb; have hz := hb.size; simp only [World.size_alloc, World.size_drew] at hc hf hz))
 go_wp2;refine bodyPost_ret (v := .tuple #[Jl k 0 0 0 X, .int .i64 (n : Nat), .int .i64 0]) (by simp [results, results96, go_sem, hc]) rfl ⟨rfl, ?_⟩;have hb' := (by go_grown : Below w.heap.size w _).trans (hb.mono (by simp));go_grown
theorem Z8 (s T : ByteArray) (w : World) (h0 : 0 < s.size) (k n : Nat) (m e : Int)
  (H25 : Hid (Jz 127 s[0] false)) (H26 : Hid (Jz 128 s[0] false)) (H30 : Hid (Jz 132 s[0] true))
  (H : Hid (∀ w, Calls prog 133 #[.string s] w fun x w' => x = .returned (.tuple #[Jl k 0 0 m T, .int .i64 (n : Nat), .int .i64 e]) ∧ Below w.heap.size w w')) :
  Calls prog 96 #[.string s] w fun x w' => x = .returned (.tuple #[Jl k 0 0 m T, .int .i64 (n : Nat), .int .i64 e]) ∧ Below w.heap.size w w' := by
 have hne := H6 s h0;go_enter func96, ntmps96;go_wp2_with fail;refine (H25.out _).mono ?_;rintro e w' ⟨rfl, rfl⟩;go_wp2_with fail;refine (H26.out _).mono ?_;rintro e w' ⟨rfl, rfl⟩;go_wp2_with fail;refine (H30.out _).mono ?_;rintro e w' ⟨rfl, rfl⟩;go_wp2_with fail;refine (H.out _).mono ?_;rintro _ w1 ⟨rfl, hb⟩;obtain ⟨hc, hf⟩ := Cr hb;have hz := hb.size;simp only [World.size_alloc] at hc hf hz;go_wp2;refine bodyPost_ret (v := .tuple #[Jl k 0 0 m T, .int .i64 (n : Nat), .int .i64 e]) (by simp [results, results96, go_sem, hc]) rfl ⟨rfl, ?_⟩;have hb' := (by go_grown : Below w.heap.size w _).trans (hb.mono (by simp));go_grown
theorem Wh (s T : ByteArray) (w : World) (h0 : 0 < s.size) (k n : Nat) (m e : Int)
  (e34 : ((s[0].toNat : Int) == 34) = true) (H25 : Hid (Jz 127 s[0] false)) (H26 : Hid (Jz 128 s[0] false)) (H30 : Hid (Jz 132 s[0] false))
  (H : Hid (∀ w, Calls prog 134 #[.string s] w fun x w' => x = .returned (.tuple #[Jl k 0 0 m T, .int .i64 (n : Nat), .int .i64 e]) ∧ Below w.heap.size w w')) :
  Calls prog 96 #[.string s] w fun x w' => x = .returned (.tuple #[Jl k 0 0 m T, .int .i64 (n : Nat), .int .i64 e]) ∧ Below w.heap.size w w' := by
 have hne := H6 s h0;go_enter func96, ntmps96;go_wp2_with fail;refine (H25.out _).mono ?_;rintro e w' ⟨rfl, rfl⟩;go_wp2_with fail;refine (H26.out _).mono ?_;rintro e w' ⟨rfl, rfl⟩;go_wp2_with fail;refine (H30.out _).mono ?_;rintro e w' ⟨rfl, rfl⟩;go_wp2_with fail;refine (H.out _).mono ?_;rintro _ w1 ⟨rfl, hb⟩;obtain ⟨hc, hf⟩ := Cr hb;have hz := hb.size;simp only [World.size_alloc] at hc hf hz;go_wp2;refine bodyPost_ret (v := .tuple #[Jl k 0 0 m T, .int .i64 (n : Nat), .int .i64 e]) (by simp [results, results96, go_sem, hc]) rfl ⟨rfl, ?_⟩;have hb' := (by go_grown : Below w.heap.size w _).trans (hb.mono (by simp));go_grown
theorem a7m (s : ByteArray) (w : World) (h0 : 0 < s.size) (e34 : ((s[0].toNat : Int) == 34) = false) (H25 : Hid (Jz 127 s[0] false)) (H26 : Hid (Jz 128 s[0] false)) (H30 : Hid (Jz 132 s[0] false))
  (H33 : Hid (∀ w, Calls prog 135 #[.string s] w fun e w' => e = .returned (.int .i64 ((0 : Nat) : Int)) ∧ w = w')) :
  Calls prog 96 #[.string s] w fun x w' => x = .returned (N6 4) ∧ Below w.heap.size w w' := by
 have hne := H6 s h0;go_enter func96, ntmps96;go_wp2_with fail;refine (H25.out _).mono ?_;rintro e w' ⟨rfl, rfl⟩;go_wp2_with fail;refine (H26.out _).mono ?_;rintro e w' ⟨rfl, rfl⟩;go_wp2_with fail;refine (H30.out _).mono ?_;rintro e w' ⟨rfl, rfl⟩;go_wp2_with fail;refine (H33.out _).mono ?_;rintro e w' ⟨rfl, rfl⟩;go_wp2;refine bodyPost_ret (v := N6 4) (by simp [results, results96, go_sem]) rfl ⟨rfl, ?_⟩;go_grown
theorem a7l (s X : ByteArray) (w : World) (h0 : 0 < s.size) (n : Nat) (hn0 : ((n : Int) == 0) = false) (hn : n <= s.size) (hs : s.size <= 100000) (hX : s.extract 0 n = X) (e34 : ((s[0].toNat : Int) == 34) = false) (H25 : Hid (Jz 127 s[0] false)) (H26 : Hid (Jz 128 s[0] false)) (H30 : Hid (Jz 132 s[0] false))
  (H33 : Hid (∀ w, Calls prog 135 #[.string s] w fun e w' => e = .returned (.int .i64 (n : Nat)) ∧ w = w'))
  (H28 : Hid (∀ w, Calls prog 130 #[.int .u8 7, .string X] w fun e w' => e = .returned (Jl 7 0 0 0 X) ∧ Below w.heap.size w w')) :
  Calls prog 96 #[.string s] w fun x w' => x = .returned (.tuple #[Jl 7 0 0 0 X, .int .i64 (n : Nat), .int .i64 0]) ∧ Below w.heap.size w w' := by
 have hne := H6 s h0;go_enter func96, ntmps96;go_wp2_with fail;refine (H25.out _).mono ?_;rintro e w' ⟨rfl, rfl⟩;go_wp2_with fail;refine (H26.out _).mono ?_;rintro e w' ⟨rfl, rfl⟩;go_wp2_with fail;refine (H30.out _).mono ?_;rintro e w' ⟨rfl, rfl⟩;go_wp2_with fail;refine (H33.out _).mono ?_;rintro e w' ⟨rfl, rfl⟩;go_wp2_with fail;refine (H28.out _).mono ?_;rintro _ w1 ⟨rfl, hb⟩;obtain ⟨hc, hf⟩ := Cr hb;have hz := hb.size;simp only [World.size_alloc] at hc hf hz;go_wp2;refine bodyPost_ret (v := .tuple #[Jl 7 0 0 0 X, .int .i64 (n : Nat), .int .i64 0]) (by simp [results, results96, go_sem, hc]) rfl ⟨rfl, ?_⟩;have hb' := (by go_grown : Below w.heap.size w _).trans (hb.mono (by simp));go_grown
theorem b8b (l : List UInt8) (hl : l ≠ []) : sgn l <= l.length := by
 unfold sgn;split
 ·rename_i h5;have h6 : ∀ x ∈ J0, x.length = 2 := by decide
  have := h6 _ h5;rw [List.length_take] at this; omega
 ·split
  ·cases l with
   | nil => exact absurd rfl hl
   | cons => simp
  ·omega
theorem X6 (s : ByteArray) (n : Nat) : bs (s.data.toList.take n) = s.extract 0 n := by rw [<- K7, Ry]
theorem a2c (s : ByteArray) (w : World) (hs : s.size <= 100000) (h0 : 0 < s.size) :
  Calls prog 96 #[.string s] w fun x w' => x = .returned (b6o (one s.data.toList)) ∧ Below w.heap.size w w' := by
 have hl : s.data.toList ≠ [] := fun e => by have := Ad s; rw [e] at this; simp at this; omega
 have hhd := C0 s h0;have hrl : Bz nam s.data.toList <= s.size := by rw [<- Ad]; exact I3 _ _
 have hsl : sgn s.data.toList <= s.size := by rw [<- Ad]; exact b8b _ hl
 have H16 := zz (fun w => Re s (by omega) _ rfl w);have name : (sml s[0] || grt s[0]) = true -> 1 <= Bz nam s.data.toList := fun h => Ks (by rw [hhd]; unfold nam; rw [h]; rfl) hl
 have H29 : (sml s[0] || grt s[0]) = true -> ∀ w, Calls prog 131 #[.string (s.extract 0 (Bz nam s.data.toList))] w fun e w' => e = .returned (.int .u8 (Kf s.data.toList : Nat)) ∧ w = w' := fun h w => by
  have hx : 0 < (s.extract 0 (Bz nam s.data.toList)).size := by rw [Ez s _ hrl]; exact name h
  refine Vd _ w hx _ (zz ?_);rw [K7, Kf, hhd]
  have e0 : (s.extract 0 (Bz nam s.data.toList))[0] = s[0] := by
   have h1 := C0 _ hx;rw [K7] at h1;rw [<- h1, <- hhd];have h2 := name h
   cases hc : s.data.toList with
   | nil => exact absurd hc hl
   | cons c t =>
    rw [hc] at h2;rw [show Bz nam (c :: t) = (Bz nam (c :: t) - 1) + 1 by omega, List.take_succ_cons]; rfl
  rw [e0]
 have hX := Ez s _ hrl;unfold one;rw [hhd]
 cases h1 : sml s[0] with
 | true =>
  rw [h1] at H29;rw [if_pos (by simp)]; dsimp only [b6o]; rw [X6]
  exact Z9 s _ w h0 hs _ _ hrl rfl (zz fun w => Oc h1 w) H16 (zz (H29 (by simp))) (zz fun w => R6 _ _ w (by omega))
 | false =>
  have H25 : Hid (Jz 127 s[0] false) := zz fun w => Oc h1 w
  cases h2 : grt s[0] with
  | true =>
   rw [h2] at H29;rw [if_pos (by simp)]; dsimp only [b6o]; rw [X6]
   exact a0a s _ w h0 hs _ _ hrl rfl H25 (zz fun w => K4 h2 w) H16 (zz (H29 (by simp))) (zz fun w => R6 _ _ w (by omega))
  | false =>
   have H26 : Hid (Jz 128 s[0] false) := zz fun w => K4 h2 w
   rw [if_neg (by simp)]
   cases h3 : dgt s[0] with
   | true =>
    rw [if_pos rfl]
    exact Z8 s _ w h0 _ _ _ _ H25 H26 (zz fun w => Zg h3 w) (zz fun w => a0z s w hs h0 h3)
   | false =>
    have H30 : Hid (Jz 132 s[0] false) := zz fun w => Zg h3 w
    rw [if_neg (by simp)];by_cases h34 : s[0] = 34
    ·rw [if_pos h34];exact Wh s _ w h0 _ _ _ _ (by rw [h34]; rfl) H25 H26 H30 (zz fun w => Xk s w hs)
    ·rw [if_neg h34];have e34 : ((s[0].toNat : Int) == 34) = false := Av (n := 34) (by decide) h34;unfold Lh;by_cases hn : sgn s.data.toList = 0
     ·rw [if_pos hn];exact a7m s w h0 e34 H25 H26 H30 (zz fun w => Wq s h0 0 hn w)
     ·rw [if_neg hn]; dsimp only [b6o]; rw [X6];exact a7l s _ w h0 _ (by rw [beq_eq_false_iff_ne]; omega) hsl hs rfl e34 H25 H26 H30 (zz fun w => Nq s w h0) (zz fun w => R6 7 _ w (by rw [Ez s _ hsl]; omega))
end
end
end Go.Proofs.YtoaplbljflhheaaGreat
