/-
  What a node's children may be, as the document has it, by their sorts; the row of sorts that family makes. Conditions: as said.
-/
import Derived.Test.YtogpfbmkbnooeaaSrt
import Derived.Test.YtogpfbmkbnooeaaKof
namespace Go.Proofs.Ytogpfbmkbnooeaa
open Go.RowKit Go.Sort
set_option linter.unusedVariables false

def allS (c : Nat) (s : List UInt8) : Bool := s.all fun x => decide (x.toNat = c)
/-- The first one's kind. -/
def hdK (ks : List Nat) : Nat := ks.headD 0
def famB (root : Bool) (k : Nat) (num : Int) (ks : List Nat) : Bool := match k with
  | 1 => root && allS 100 (ks.map srt)
  | 2 => allS 102 (ks.map srt)
  | 3 => ks.map srt == [116]
  | 5 => ks.map srt == [116]
  | 20 => ks.map srt == [116]
  | 4 => decide (2 ≤ ks.length) && (((ks.length : Int) - 2 == num) && (allS 112 ((ks.map srt).take (ks.length - 2)) && (((ks.map srt).getD (ks.length - 2) 0 == 116 || (ks.map srt).getD (ks.length - 2) 0 == 48) && (ks.map srt).getD (ks.length - 1) 0 == 98)))
  | 6 => allS 115 (ks.map srt)
  | 7 => ks.map srt == [116, 101]
  | 8 => ks.map srt == [101, 101] && (hdK ks == 26 || (hdK ks == 28 || hdK ks == 29))
  | 9 => ks.map srt == [101, 98] || ks.map srt == [101, 98, 98]
  | 10 => ks.map srt == [101, 98]
  | 11 => ks.map srt == [] || ks.map srt == [101]
  | 12 => ks.map srt == [101]
  | 29 => ks.map srt == [101]
  | 30 => ks.map srt == [101]
  | 13 => ks.map srt == [101] && hdK ks == 27
  | 27 => allS 101 (ks.map srt)
  | 28 => ks.map srt == [101, 101]
  | 31 => ks.map srt == [101, 101]
  | 32 => (ks.map srt == [116] && hdK ks == 19) || (ks.map srt == [116, 101] && hdK ks == 20)
  | k => ks.map srt == [] && (decide (14 ≤ k) && decide (k ≤ 26))

def FRel (l : List Nd) (xs : List Nat) (w1 : World) (v j : Value) (wr : World) : Prop :=
  ∃ i : Nat, i ≤ xs.length ∧ j = .int .i64 i ∧ Own wr w1.heap.size v ((xs.take i).map fun x => srt (kindAt l x)) ∧ Below w1.heap.size w1 wr

theorem FRel.step {l : List Nd} {xs : List Nat} {w1 w2 wr : World} {v : Value} {i : Nat} {j : Int} (hi : i < xs.length) (hj : j = ((i + 1 : Nat) : Int)) (ho : Own w2 w1.heap.size v ((xs.take i).map (fun x => srt (kindAt l x)) ++ [srt (kindAt l (xs.getD i 0))])) (hb : Below w1.heap.size w1 w2) : FRel l xs w1 v (.int .i64 j) w2 := by
  refine ⟨i + 1, hi, by rw [hj], ?_, hb⟩
  rw [List.take_succ_eq_append_getElem hi, List.map_append]
  have : xs.getD i 0 = xs[i] := by simp [List.getD, hi]
  rw [this] at ho
  simpa using ho

end Go.Proofs.Ytogpfbmkbnooeaa
