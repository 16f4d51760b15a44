/-
  CountReduced of the specification; its law and IsReduced's, given the program's own contracts.
-/
import Derived.Test.YtdcphheeapmjcaaWdw
import Derived.Test.YtdcphheeapmjcaaGb
namespace Go.Proofs.Ytdcphheeapmjcaa
open Go.ChangeShapes Go.WideShapes Go.ChangeAt Go.RowKit
open Wd
end Go.Proofs.Ytdcphheeapmjcaa
