/-
  THE WALK of the law, whole: what the program's function and the specification's answer.
-/
import Derived.Test.YtepopepafdjjlaaIcr
namespace Go.Proofs.Ytepopepafdjjlaa
open Go.ChangeShapes Go.WideShapes Go.ChangeAt Go.RowKit
theorem fnExactCountReduced_walk (a0 : Int) {p0 : Prop} (_ : p0) (a1 : Int) {p1 : Prop} (_ : p1) (w : World) :
    Calls Try.prog 11 #[.int .i64 a0, .int .i64 a1] w fun e w' => e = .returned (.bool true) ∧ Below w.heap.size w w' := by
  have h := law_CountReduced (fun g n w => (icount_any g n w).mono fun e w' h => ⟨h.1, same_below h.2⟩) a0 a1 w
  skip
  exact h
end Go.Proofs.Ytepopepafdjjlaa
