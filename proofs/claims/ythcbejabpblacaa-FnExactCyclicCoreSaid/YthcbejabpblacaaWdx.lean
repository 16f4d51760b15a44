/-
  CountReduced of the specification; its law and IsReduced's, given the program's own contracts.
-/
import Derived.Test.YthcbejabpblacaaWdw
import Derived.Test.YthcbejabpblacaaWdv
namespace Go.Proofs.Ythcbejabpblacaa
open Go.ChangeShapes Go.WideShapes Go.ChangeAt Go.RowKit
open Wd
end Go.Proofs.Ythcbejabpblacaa
