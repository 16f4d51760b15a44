/-
  CONTRACT: the specification's CommonStart.
-/
import Derived.Test.YtdcphheeapmjcaaWdq
namespace Go.Proofs.Ytdcphheeapmjcaa
open Go.ChangeShapes Go.WideShapes Go.ChangeAt Go.RowKit
open Wd
/-- how many letters two words begin with in common -/
def comL : List UInt8 → List UInt8 → Nat
  | c :: r, d :: s => if c = d then comL r s + 1 else 0
  | _, _ => 0
theorem comL_nil (u : List UInt8) : comL u [] = 0 := by cases u <;> rfl
end Go.Proofs.Ytdcphheeapmjcaa
