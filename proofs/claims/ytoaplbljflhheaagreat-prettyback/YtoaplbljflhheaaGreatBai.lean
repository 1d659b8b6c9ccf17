/-
 Contracts and plain facts on the way to PrettyBack. Conditions: as each says.
-/
import Derived.Test.YtoaplbljflhheaaGreatBaf
set_option maxHeartbeats 40000000
set_option maxRecDepth 100000
set_option linter.unusedVariables false
set_option linter.unusedSimpArgs false
namespace Go.Proofs.YtoaplbljflhheaaGreat.Nm
open _root_.Go.Proofs.Tryz
open Go.RowKit
def textL (a : Int) : List UInt8 := if a < 0 then 45 :: dec a.natAbs else dec a.natAbs
theorem a7p (a u : Int) (m : Nat) (w : World) (ha : a < 0) (hm : Hid (m <= 18446744073709551615)) (hu : IntKind.u64.wrap a = u) (hv : IntKind.u64.wrap (-u) = m) :
  Calls prog 153 #[.int .i64 a] w fun e w' => e = .returned (.string (bs (45 :: dec m))) ∧ Below w.heap.size w w' := by
 have hs : (bs (dec m)).size <= 20 := by rw [Ib]; exact dec_len_le m hm.out
 have hcat : ({ data := #[45] } : ByteArray) ++ bs (dec m) = bs (45 :: dec m) := a6a [45] (dec m);have HC := zz hcat;clear hcat;go_enter func153, ntmps153;go_wp2_with fail;refine (Nz m _ hm).mono ?_;rintro e w1 ⟨rfl, hb⟩;go_wp2;go_ret;refine ⟨?_, hb⟩;exact congrArg (fun s => Ending.returned (.string s)) HC.out
theorem a7o (a : Int) (m : Nat) (w : World) (ha : ¬ a < 0) (hm : Hid (m <= 18446744073709551615)) (hu : IntKind.u64.wrap a = m) :
  Calls prog 153 #[.int .i64 a] w fun e w' => e = .returned (.string (bs (dec m))) ∧ Below w.heap.size w w' := by
 go_enter func153, ntmps153;go_wp2_with fail;refine (Nz m _ hm).mono ?_;rintro e w1 ⟨rfl, hb⟩;go_wp2;go_ret;exact ⟨rfl, hb⟩
theorem ntext_any (a : Int) (w : World) (h0 : -9223372036854775808 <= a) (h1 : a <= 9223372036854775807) :
  Calls prog 153 #[.int .i64 a] w fun e w' => e = .returned (.string (bs (textL a))) ∧ Below w.heap.size w w' := by
 unfold textL;by_cases h : a < 0
 ·rw [if_pos h];refine a7p a (a + 18446744073709551616) a.natAbs w h ?_ ?_ ?_
  ·show _ <= _;omega
  ·rw [IntKind.wrap_u64]; omega
  ·rw [IntKind.wrap_u64]; omega
 ·rw [if_neg h];refine a7o a a.natAbs w h ?_ ?_
  ·show _ <= _;omega
  ·rw [IntKind.wrap_u64]; omega
end Go.Proofs.YtoaplbljflhheaaGreat.Nm
