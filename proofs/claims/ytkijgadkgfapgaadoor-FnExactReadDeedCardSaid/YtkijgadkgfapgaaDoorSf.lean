/-
  CONTRACTS: how the laws hold two numbers against each other ('sameFloat'), and numbers widened.
-/
import Derived.Test.YtkijgadkgfapgaaDoorChecked
import Derived.Test.YtkijgadkgfapgaaDoorBits
import Derived.WalkKit
import Derived.ProofKit
import Derived.OpenShut
import Derived.WalkLawsBesides
import Derived.Laws.FloatArith
import Derived.Outline
import Derived.Laws.Externs
import Derived.Lib.Hide
namespace Go.Proofs.YtkijgadkgfapgaaDoor
open Go.ChangeShapes Go.WideShapes Go.ChangeAt Go.RowKit
open Fl
theorem ret_bool {a b : Bool} (h : a = b) : Ending.returned (.bool a) = .returned (.bool b) := by rw [h]
theorem ret_int {k : IntKind} {a b : Int} (h : a = b) : Ending.returned (.int k a) = .returned (.int k b) := by rw [h]
theorem ret_float {k : FloatKind} {a b : Nat} (h : a = b) : Ending.returned (.float k a) = .returned (.float k b) := by rw [h]
theorem widen_num (g : Nat) (h : kd g ≠ 4) : nan64 (widen g) = false := (widen_bits (by rw [nan_kd]; simpa using h)).2
theorem nan_kd4 {r : Nat} (h : nan32 r = true) : kd r = 4 := by rw [nan_kd] at h; simpa using h
end Go.Proofs.YtkijgadkgfapgaaDoor
