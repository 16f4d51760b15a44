/-
  The specification's RankReduced on every input; its law, given the program's own contract.
-/
import Derived.Test.YtdcphheeapmjcaaWdy
import Derived.Test.YtdcphheeapmjcaaWdx
namespace Go.Proofs.Ytdcphheeapmjcaa
open Go.ChangeShapes Go.WideShapes Go.ChangeAt Go.RowKit
open Wd
/-- the rank and its code -/
def rankR (g : Int) (l : List UInt8) : Int := if givenC g l = 0 then (if l.length ≤ 12 then rankTo g l l.length else 0) else 0
def rankC (g : Int) (l : List UInt8) : Int := if givenC g l = 0 then (if l.length ≤ 12 then 0 else 3) else givenC g l
theorem given_zero {g : Int} {l : List UInt8} (h : givenC g l = 0) : (1 ≤ g ∧ g ≤ 4) ∧ wordB l = true := by
  unfold givenC at h
  split at h
  · rename_i hb
    split at h
    · rename_i hg; exact ⟨hg, hb⟩
    · cases h
  · cases h
end Go.Proofs.Ytdcphheeapmjcaa
