/-
  THE PROGRAM's SUM FROM LEFT TO RIGHT.
-/
import Derived.Test.YtgjejolfkfpobaaSum
namespace Go.Proofs.Ytgjejolfkfpobaa
open Go.ChangeShapes Go.WideShapes Go.ChangeAt Go.RowKit Go.Deep
open Fl
end Go.Proofs.Ytgjejolfkfpobaa
