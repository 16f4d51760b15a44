/-
  THE WALK of the law, whole: what the program's function and the specification's answer.
-/
import Derived.Test.YthcbejabpblacaaIls
namespace Go.Proofs.Ythcbejabpblacaa
open Go.ChangeShapes Go.WideShapes Go.ChangeAt Go.RowKit
theorem fnExactLetterSums_walk (a0 : ByteArray) {p0 : Prop} (_ : p0) (w : World) :
    Calls Try.prog 3 #[.string a0] w fun e w' => e = .returned (.bool true) ∧ Below w.heap.size w w' := by
  have h := law_LetterSums a0.data.toList w
  simp only [txt_list] at h
  exact h
end Go.Proofs.Ythcbejabpblacaa
