/-
  THE WALK of the law, whole: what the program's function and the specification's answer.
-/
import Derived.Test.YtepopepafdjjlaaWdzc
namespace Go.Proofs.Ytepopepafdjjlaa
open Go.ChangeShapes Go.WideShapes Go.ChangeAt Go.RowKit
theorem fnExactNextWord_walk (a0 : Int) {p0 : Prop} (_ : p0) (a1 : ByteArray) {p1 : Prop} (_ : p1) (w : World) :
    Calls Try.prog 13 #[.int .i64 a0, .string a1] w fun e w' => e = .returned (.bool true) ∧ Below w.heap.size w w' := by
  have h := law_NextWord  a0 a1.data.toList w
  simp only [txt_list] at h
  exact h
end Go.Proofs.Ytepopepafdjjlaa
