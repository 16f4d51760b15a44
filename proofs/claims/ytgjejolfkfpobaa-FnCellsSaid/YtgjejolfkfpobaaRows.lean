/-
  No cell of these rows narrows 'for every input' (looked for: loops, veiled, ifaces, maps, wideKeys, modest, calm, conditions, laid).
  DERIVED. THE GIVEN ROWS OF THIS SEAT. 4 by the template 'for every input the law returns true; each argument reads behind the call as it read before'; 0 by the template 'total and deterministic' (their statements: YtgjejolfkfpobaaTotals.lean).
  GIVEN WITH THE SEED: the statements are not yours to turn. If you find one false, say at which input.
  Laid BY PROGRAM, IN A SANDBOX (cutbox-rows.mjs): the forced cells as the released guide's own fill.sh prints them over the translation d6b5ef929ed02ce2… (all of the seat's roots in one cut). By AI agents, Wed Nov 11 2026. No macro, syntax, notation, axiom, sorry.
-/
import Derived.Test.YtgjejolfkfpobaaChecked
import GoSem.Claim
import GoSem.ClaimJoined
import GoSem.ClaimMapViews
import Derived.JoinedTies
import Derived.KernelRfl
namespace Go.Proofs.Ytgjejolfkfpobaa
/- THE CELL 'sum', in the pinned program and in every row, IS THE sha256 OF THE DUMP (.gsa) THAT YtgjejolfkfpobaaProg.lean LOADS. Nothing in Lean hashes anything: it is a label: what it is worth is what the hold of that sum in a sandbox is worth. -/
noncomputable def Try.pinned : Pinned := { name := "ytgjejolfkfpobaa", sum := "d6b5ef929ed02ce29a445e27973cd5dd388dbfcab826bebc1db49a30f034bda9", checked := Try.checked }
namespace Rows
def none {H : Type} : Left H := { results := [], args := [] }

/-- 'laws.FnSorted': WHATEVER THE INPUT: true; the input reads as it did. -/
def fnSortedSpec : ChangeSpec := { name := "fnSorted", fn := fun _ => fun
  | [d1, d2] => { results := [.lit (.bool true)], args := [d1, d2] }
  | _ => none }
def fnSortedRow : OpenClaim := { program := "ytgjejolfkfpobaa", sum := "d6b5ef929ed02ce29a445e27973cd5dd388dbfcab826bebc1db49a30f034bda9", func := "loop.example/g01171/laws.FnSorted", spec := "fnSorted", inPlace := ["math.Float32frombits", "math.Float64frombits", "math.Float64bits", "math.Float32bits"], unfollowed := true, recurses := true, apart := false }
def FnSortedSaid : Prop := fnSortedRow.holds Try.pinned (OpenSpec.ofChange fnSortedSpec)

/-- ITS FALSE NEIGHBOUR: 'it returns false'. Refute it at one input. -/
def fnSortedWrong : ChangeSpec := { name := "fnSorted", fn := fun _ => fun
  | [d1, d2] => { results := [.lit (.bool false)], args := [d1, d2] }
  | _ => none }
def FnSortedWrongFalsely : Prop := fnSortedRow.holds Try.pinned (OpenSpec.ofChange fnSortedWrong)

/-- 'laws.FnCells': WHATEVER THE INPUT: true; the input reads as it did. -/
def fnCellsSpec : ChangeSpec := { name := "fnCells", fn := fun _ => fun
  | [d1, d2] => { results := [.lit (.bool true)], args := [d1, d2] }
  | _ => none }
def fnCellsRow : OpenClaim := { program := "ytgjejolfkfpobaa", sum := "d6b5ef929ed02ce29a445e27973cd5dd388dbfcab826bebc1db49a30f034bda9", func := "loop.example/g01171/laws.FnCells", spec := "fnCells", inPlace := ["math.Float32bits", "math.archFloor", "math.Float64bits", "math.Float64frombits", "math.archTrunc"], apart := false }
def FnCellsSaid : Prop := fnCellsRow.holds Try.pinned (OpenSpec.ofChange fnCellsSpec)

/-- ITS FALSE NEIGHBOUR: 'it returns false'. Refute it at one input. -/
def fnCellsWrong : ChangeSpec := { name := "fnCells", fn := fun _ => fun
  | [d1, d2] => { results := [.lit (.bool false)], args := [d1, d2] }
  | _ => none }
def FnCellsWrongFalsely : Prop := fnCellsRow.holds Try.pinned (OpenSpec.ofChange fnCellsWrong)

/-- 'laws.FnExactSignOfDot': WHATEVER THE INPUT: true; the input reads as it did. -/
def fnExactSignOfDotSpec : ChangeSpec := { name := "fnExactSignOfDot", fn := fun _ => fun
  | [d1, d2] => { results := [.lit (.bool true)], args := [d1, d2] }
  | _ => none }
def fnExactSignOfDotRow : OpenClaim := { program := "ytgjejolfkfpobaa", sum := "d6b5ef929ed02ce29a445e27973cd5dd388dbfcab826bebc1db49a30f034bda9", func := "loop.example/g01171/laws.FnExactSignOfDot", spec := "fnExactSignOfDot", inPlace := ["math.Float32bits", "math/bits.Add64", "math/bits.Sub64"], unfollowed := true, recurses := true, apart := false }
def FnExactSignOfDotSaid : Prop := fnExactSignOfDotRow.holds Try.pinned (OpenSpec.ofChange fnExactSignOfDotSpec)

/-- ITS FALSE NEIGHBOUR: 'it returns false'. Refute it at one input. -/
def fnExactSignOfDotWrong : ChangeSpec := { name := "fnExactSignOfDot", fn := fun _ => fun
  | [d1, d2] => { results := [.lit (.bool false)], args := [d1, d2] }
  | _ => none }
def FnExactSignOfDotWrongFalsely : Prop := fnExactSignOfDotRow.holds Try.pinned (OpenSpec.ofChange fnExactSignOfDotWrong)

/-- 'laws.FnExactSortReals': WHATEVER THE INPUT: true; the input reads as it did. -/
def fnExactSortRealsSpec : ChangeSpec := { name := "fnExactSortReals", fn := fun _ => fun
  | [d] => { results := [.lit (.bool true)], args := [d] }
  | _ => none }
def fnExactSortRealsRow : OpenClaim := { program := "ytgjejolfkfpobaa", sum := "d6b5ef929ed02ce29a445e27973cd5dd388dbfcab826bebc1db49a30f034bda9", func := "loop.example/g01171/laws.FnExactSortReals", spec := "fnExactSortReals", inPlace := ["math.Float32bits"], unfollowed := true, recurses := true, apart := false }
def FnExactSortRealsSaid : Prop := fnExactSortRealsRow.holds Try.pinned (OpenSpec.ofChange fnExactSortRealsSpec)

/-- ITS FALSE NEIGHBOUR: 'it returns false'. Refute it at one input. -/
def fnExactSortRealsWrong : ChangeSpec := { name := "fnExactSortReals", fn := fun _ => fun
  | [d] => { results := [.lit (.bool false)], args := [d] }
  | _ => none }
def FnExactSortRealsWrongFalsely : Prop := fnExactSortRealsRow.holds Try.pinned (OpenSpec.ofChange fnExactSortRealsWrong)

/- THE SECOND FORM. 'bulk': how many values and letters a reading holds, each counted each time it is reached (what is shared counts as often as it is met; a slice's spare places count too). A statement '..UptoSaid' is the law's where the arguments, and the package variables that the reading takes, are together of bulk at most 1048576: NARROWER than '..Said'. Prove '..Said' where nothing that the law and all that it calls make is longer than what came in: it says more and counts as full. Else prove '..UptoSaid'. A law counts once. -/
mutual
def uptoBulk {H : Type} : DataW H → Nat
  | .lit (.string bytes) => bytes.length + 1
  | .lit _ => 1
  | .nil => 1
  | .ptr d => uptoBulk d + 1
  | .slice elems spare => uptoBulkAll elems + uptoBulkAll spare + 1
  | .agg parts => uptoBulkAll parts + 1
  | .iface _ d => uptoBulk d + 1
  | .map entries => uptoBulkEntries entries + 1
  | .held _ => 1
def uptoBulkAll {H : Type} : List (DataW H) → Nat
  | [] => 0
  | d :: r => uptoBulk d + uptoBulkAll r
def uptoBulkEntries {H : Type} : List (Lit × DataW H) → Nat
  | [] => 0
  | x :: r => uptoBulkEntry x + uptoBulkEntries r
def uptoBulkEntry {H : Type} : Lit × DataW H → Nat
  | (.string bytes, d) => bytes.length + uptoBulk d + 1
  | (_, d) => uptoBulk d + 1
 end
def uptoSmall : (H : Type) → List (DataW H) → Bool := fun _ ds => decide (uptoBulkAll ds ≤ 1048576)
def OpenSpec.upto (s : _root_.Go.ChangeSpec) : _root_.Go.OpenSpec := { _root_.Go.OpenSpec.ofChange s with cond := some uptoSmall }

/-- 'laws.FnSorted', WHERE WHAT IT READS IS OF BULK AT MOST 1048576: true; the input reads as it did. -/
def fnSortedUptoRow : OpenClaim := { program := "ytgjejolfkfpobaa", sum := "d6b5ef929ed02ce29a445e27973cd5dd388dbfcab826bebc1db49a30f034bda9", func := "loop.example/g01171/laws.FnSorted", spec := "fnSorted", inPlace := ["math.Float32frombits", "math.Float64frombits", "math.Float64bits", "math.Float32bits"], unfollowed := true, recurses := true, apart := false, narrowed := true }
def FnSortedUptoSaid : Prop := fnSortedUptoRow.holds Try.pinned (OpenSpec.upto fnSortedSpec)

/-- 'laws.FnCells', WHERE WHAT IT READS IS OF BULK AT MOST 1048576: true; the input reads as it did. -/
def fnCellsUptoRow : OpenClaim := { program := "ytgjejolfkfpobaa", sum := "d6b5ef929ed02ce29a445e27973cd5dd388dbfcab826bebc1db49a30f034bda9", func := "loop.example/g01171/laws.FnCells", spec := "fnCells", inPlace := ["math.Float32bits", "math.archFloor", "math.Float64bits", "math.Float64frombits", "math.archTrunc"], apart := false, narrowed := true }
def FnCellsUptoSaid : Prop := fnCellsUptoRow.holds Try.pinned (OpenSpec.upto fnCellsSpec)

/-- 'laws.FnExactSignOfDot', WHERE WHAT IT READS IS OF BULK AT MOST 1048576: true; the input reads as it did. -/
def fnExactSignOfDotUptoRow : OpenClaim := { program := "ytgjejolfkfpobaa", sum := "d6b5ef929ed02ce29a445e27973cd5dd388dbfcab826bebc1db49a30f034bda9", func := "loop.example/g01171/laws.FnExactSignOfDot", spec := "fnExactSignOfDot", inPlace := ["math.Float32bits", "math/bits.Add64", "math/bits.Sub64"], unfollowed := true, recurses := true, apart := false, narrowed := true }
def FnExactSignOfDotUptoSaid : Prop := fnExactSignOfDotUptoRow.holds Try.pinned (OpenSpec.upto fnExactSignOfDotSpec)

/-- 'laws.FnExactSortReals', WHERE WHAT IT READS IS OF BULK AT MOST 1048576: true; the input reads as it did. -/
def fnExactSortRealsUptoRow : OpenClaim := { program := "ytgjejolfkfpobaa", sum := "d6b5ef929ed02ce29a445e27973cd5dd388dbfcab826bebc1db49a30f034bda9", func := "loop.example/g01171/laws.FnExactSortReals", spec := "fnExactSortReals", inPlace := ["math.Float32bits"], unfollowed := true, recurses := true, apart := false, narrowed := true }
def FnExactSortRealsUptoSaid : Prop := fnExactSortRealsUptoRow.holds Try.pinned (OpenSpec.upto fnExactSortRealsSpec)

end Rows
end Go.Proofs.Ytgjejolfkfpobaa
