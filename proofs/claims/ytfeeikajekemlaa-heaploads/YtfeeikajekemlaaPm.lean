/-
  The plain objects that are laid. Conditions: none.
-/
import Derived.Test.YtfeeikajekemlaaPl
namespace Go.Proofs.Ytfeeikajekemlaa
set_option linter.unusedVariables false

def strO (s : ByteArray) : Ob := ⟨3, 0, s, []⟩
def listO (f : Int) (n : Nat) (z : Vl) : Ob := ⟨7, f, { data := #[] }, List.replicate n z⟩
def recO (f : Int) (l : List Vl) : Ob := ⟨6, f, { data := #[] }, l⟩
theorem addB_room {room : Nat} {m : M} {o : Ob} (hm : m.cells ≤ room) (hmay : mayB o = true) : addB room m o = decide ((part o : Int) < (room : Int) - m.cells) := by
  unfold addB
  rw [part_cost hmay, Bool.eq_iff_iff]
  simp
  omega
end Go.Proofs.Ytfeeikajekemlaa
