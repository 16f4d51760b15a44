/-
  CONTRACT: the specification's range check.
-/
import Derived.Test.YthcbejabpblacaaSf
import Derived.Deep.QuietTactic
import Derived.BigQuiet
namespace Go.Proofs.Ythcbejabpblacaa
open Go.ChangeShapes Go.WideShapes Go.ChangeAt Go.RowKit
end Go.Proofs.Ythcbejabpblacaa
