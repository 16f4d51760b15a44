/-
  CONTRACTS: the specification's CompareWords, JoinReduced.
-/
import Derived.Test.YtdcphheeapmjcaaWdm
import Derived.Test.YtdcphheeapmjcaaWdp
namespace Go.Proofs.Ytdcphheeapmjcaa
open Go.ChangeShapes Go.WideShapes Go.ChangeAt Go.RowKit
open Wd
end Go.Proofs.Ytdcphheeapmjcaa
