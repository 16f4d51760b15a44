/-
  CONTRACTS: the specification's check, and its CheckOf.
-/
import Derived.Test.YtkijgadkgfapgaaDoorFc
namespace Go.Proofs.YtkijgadkgfapgaaDoor
open Go.ChangeShapes Go.WideShapes Go.ChangeAt Go.RowKit
theorem catU_same {q : Nat → Int} {n : Nat} : ∀ j, j < n + 1 → catU q n (fun _ => q n) j = q j := fun j hj => by
  unfold catU
  split
  · rfl
  · rw [show j = n by omega]
end Go.Proofs.YtkijgadkgfapgaaDoor
