/-
  LAWS OF WORDS, given the program's own contracts: the law returns true.
-/
import Derived.Test.YtdcphheeapmjcaaWdn
namespace Go.Proofs.Ytdcphheeapmjcaa
open Go.ChangeShapes Go.WideShapes Go.ChangeAt Go.RowKit
open Wd
end Go.Proofs.Ytdcphheeapmjcaa
