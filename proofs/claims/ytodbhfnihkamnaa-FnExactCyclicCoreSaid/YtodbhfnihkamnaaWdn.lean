/-
  CONTRACTS: the specification's CompareWords, JoinReduced.
-/
import Derived.Test.YtodbhfnihkamnaaWdm
import Derived.Test.YtodbhfnihkamnaaWdp
namespace Go.Proofs.Ytodbhfnihkamnaa
open Go.ChangeShapes Go.WideShapes Go.ChangeAt Go.RowKit
open Wd
end Go.Proofs.Ytodbhfnihkamnaa
