/-
 A fact put by. Conditions: none.
-/
import Derived.Lib.Hide
namespace Go.Proofs.YtoaplbljflhheaaGreat
theorem zz {p : Prop} (h : p) : RowKit.Hid p := Lib.hid h
end Go.Proofs.YtoaplbljflhheaaGreat
