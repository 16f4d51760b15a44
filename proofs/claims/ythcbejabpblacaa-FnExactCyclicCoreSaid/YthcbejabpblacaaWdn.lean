/-
  CONTRACTS: the specification's CompareWords, JoinReduced.
-/
import Derived.Test.YthcbejabpblacaaWdm
import Derived.Test.YthcbejabpblacaaWdp
namespace Go.Proofs.Ythcbejabpblacaa
open Go.ChangeShapes Go.WideShapes Go.ChangeAt Go.RowKit
open Wd
end Go.Proofs.Ythcbejabpblacaa
