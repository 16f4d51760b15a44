/-
  CONTRACT: the specification's range check.
-/
import Derived.Test.YtodbhfnihkamnaaSf
import Derived.Deep.QuietTactic
import Derived.BigQuiet
namespace Go.Proofs.Ytodbhfnihkamnaa
open Go.ChangeShapes Go.WideShapes Go.ChangeAt Go.RowKit
end Go.Proofs.Ytodbhfnihkamnaa
