/-
  THE WALK of the law, whole: what the program's function and the specification's answer.
-/
import Derived.Test.YtdcphheeapmjcaaCos
namespace Go.Proofs.Ytdcphheeapmjcaa
open Go.ChangeShapes Go.WideShapes Go.ChangeAt Go.RowKit
theorem fnExactCodeOfWord_walk (a0 : ByteArray) {p0 : Prop} (_ : p0) (w : World) :
    Calls Try.prog 6 #[.string a0] w fun e w' => e = .returned (.bool true) ∧ Below w.heap.size w w' := by
  have h := law_CodeOfWord  a0.data.toList w
  simp only [txt_list] at h
  exact h
end Go.Proofs.Ytdcphheeapmjcaa
