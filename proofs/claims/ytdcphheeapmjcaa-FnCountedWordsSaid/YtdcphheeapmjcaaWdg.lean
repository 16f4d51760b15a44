/-
  CONTRACT: the specification's code of a number of generators and a reduced word.
-/
import Derived.Test.YtdcphheeapmjcaaGb
import Derived.Test.YtdcphheeapmjcaaGa
namespace Go.Proofs.Ytdcphheeapmjcaa
open Go.ChangeShapes Go.WideShapes Go.ChangeAt Go.RowKit
open Wd
/-- every letter is of the generators -/
def gensB (g : Int) (l : List UInt8) : Bool := l.all fun c => decide (lnum c < 2 * g)
/-- the code of a number of generators and a word -/
def givenC (g : Int) (l : List UInt8) : Int := if wordB l then (if 1 ≤ g ∧ g ≤ 4 then (if gensB g l then (if red l = l then 0 else 4) else 2) else 2) else 1
end Go.Proofs.Ytdcphheeapmjcaa
