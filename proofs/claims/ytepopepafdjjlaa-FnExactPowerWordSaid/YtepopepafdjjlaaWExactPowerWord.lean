/-
  THE WALK of the law, whole: what the program's function and the specification's answer.
-/
import Derived.Test.YtepopepafdjjlaaIpw
namespace Go.Proofs.Ytepopepafdjjlaa
open Go.ChangeShapes Go.WideShapes Go.ChangeAt Go.RowKit
theorem fnExactPowerWord_walk (a0 : ByteArray) {p0 : Prop} (_ : p0) (a1 : Int) {p1 : Prop} (_ : p1) (w : World) :
    Calls Try.prog 8 #[.string a0, .int .i64 a1] w fun e w' => e = .returned (.bool true) ∧ Below w.heap.size w w' := by
  have h := law_PowerWord ipower_any a0.data.toList a1 w
  simp only [txt_list] at h
  exact h
end Go.Proofs.Ytepopepafdjjlaa
