/-
  No cell of these rows narrows 'for every input' (looked for: loops, veiled, ifaces, maps, wideKeys, modest, calm, conditions, laid).
  DERIVED. THE GIVEN ROWS OF THIS SEAT. 5 by the template 'for every input the law returns true; each argument reads behind the call as it read before'; 0 by the template 'total and deterministic' (their statements: YtanepboepeijoaaTotals.lean).
  GIVEN WITH THE SEED: the statements are not yours to turn. If you find one false, say at which input.
  Laid BY PROGRAM, IN A SANDBOX (cutbox-rows.mjs): the forced cells as the released guide's own fill.sh prints them over the translation 1da582244576e752… (all of the seat's roots in one cut). By AI agents, Wed Nov 11 2026. No macro, syntax, notation, axiom, sorry.
-/
import Derived.Test.YtanepboepeijoaaChecked
import GoSem.Claim
import GoSem.ClaimJoined
import GoSem.ClaimMapViews
import Derived.JoinedTies
import Derived.KernelRfl
namespace Go.Proofs.Ytanepboepeijoaa
/- THE CELL 'sum', in the pinned program and in every row, IS THE sha256 OF THE DUMP (.gsa) THAT YtanepboepeijoaaProg.lean LOADS. Nothing in Lean hashes anything: it is a label: what it is worth is what the hold of that sum in a sandbox is worth. -/
noncomputable def Try.pinned : Pinned := { name := "ytanepboepeijoaa", sum := "1da582244576e752fc522a929b7eabb9215bd423cd85464578cc6473343a31dc", checked := Try.checked }
namespace Rows
def none {H : Type} : Left H := { results := [], args := [] }

/-- 'laws.FnExactIdentityMap': WHATEVER THE INPUT: true; the input reads as it did. -/
def fnExactIdentityMapSpec : ChangeSpec := { name := "fnExactIdentityMap", fn := fun _ => fun
  | [] => { results := [.lit (.bool true)], args := [] }
  | _ => none }
def fnExactIdentityMapRow : OpenClaim := { program := "ytanepboepeijoaa", sum := "1da582244576e752fc522a929b7eabb9215bd423cd85464578cc6473343a31dc", func := "loop.example/g01171/laws.FnExactIdentityMap", spec := "fnExactIdentityMap", apart := false }
def FnExactIdentityMapSaid : Prop := fnExactIdentityMapRow.holds Try.pinned (OpenSpec.ofChange fnExactIdentityMapSpec)

/-- ITS FALSE NEIGHBOUR: 'it returns false'. Refute it at one input. -/
def fnExactIdentityMapWrong : ChangeSpec := { name := "fnExactIdentityMap", fn := fun _ => fun
  | [] => { results := [.lit (.bool false)], args := [] }
  | _ => none }
def FnExactIdentityMapWrongFalsely : Prop := fnExactIdentityMapRow.holds Try.pinned (OpenSpec.ofChange fnExactIdentityMapWrong)

/-- 'laws.FnExactFlipMap': WHATEVER THE INPUT: true; the input reads as it did. -/
def fnExactFlipMapSpec : ChangeSpec := { name := "fnExactFlipMap", fn := fun _ => fun
  | [] => { results := [.lit (.bool true)], args := [] }
  | _ => none }
def fnExactFlipMapRow : OpenClaim := { program := "ytanepboepeijoaa", sum := "1da582244576e752fc522a929b7eabb9215bd423cd85464578cc6473343a31dc", func := "loop.example/g01171/laws.FnExactFlipMap", spec := "fnExactFlipMap", apart := false }
def FnExactFlipMapSaid : Prop := fnExactFlipMapRow.holds Try.pinned (OpenSpec.ofChange fnExactFlipMapSpec)

/-- ITS FALSE NEIGHBOUR: 'it returns false'. Refute it at one input. -/
def fnExactFlipMapWrong : ChangeSpec := { name := "fnExactFlipMap", fn := fun _ => fun
  | [] => { results := [.lit (.bool false)], args := [] }
  | _ => none }
def FnExactFlipMapWrongFalsely : Prop := fnExactFlipMapRow.holds Try.pinned (OpenSpec.ofChange fnExactFlipMapWrong)

/-- 'laws.FnExactSortReals': WHATEVER THE INPUT: true; the input reads as it did. -/
def fnExactSortRealsSpec : ChangeSpec := { name := "fnExactSortReals", fn := fun _ => fun
  | [d] => { results := [.lit (.bool true)], args := [d] }
  | _ => none }
def fnExactSortRealsRow : OpenClaim := { program := "ytanepboepeijoaa", sum := "1da582244576e752fc522a929b7eabb9215bd423cd85464578cc6473343a31dc", func := "loop.example/g01171/laws.FnExactSortReals", spec := "fnExactSortReals", inPlace := ["math.Float32bits"], unfollowed := true, recurses := true, apart := false }
def FnExactSortRealsSaid : Prop := fnExactSortRealsRow.holds Try.pinned (OpenSpec.ofChange fnExactSortRealsSpec)

/-- ITS FALSE NEIGHBOUR: 'it returns false'. Refute it at one input. -/
def fnExactSortRealsWrong : ChangeSpec := { name := "fnExactSortReals", fn := fun _ => fun
  | [d] => { results := [.lit (.bool false)], args := [d] }
  | _ => none }
def FnExactSortRealsWrongFalsely : Prop := fnExactSortRealsRow.holds Try.pinned (OpenSpec.ofChange fnExactSortRealsWrong)

/-- 'laws.FnExactUnitOf': WHATEVER THE INPUT: true; the input reads as it did. -/
def fnExactUnitOfSpec : ChangeSpec := { name := "fnExactUnitOf", fn := fun _ => fun
  | [d] => { results := [.lit (.bool true)], args := [d] }
  | _ => none }
def fnExactUnitOfRow : OpenClaim := { program := "ytanepboepeijoaa", sum := "1da582244576e752fc522a929b7eabb9215bd423cd85464578cc6473343a31dc", func := "loop.example/g01171/laws.FnExactUnitOf", spec := "fnExactUnitOf", inPlace := ["math.Float32bits", "math.Float64frombits", "math/bits.Add64", "math/bits.Sub64", "math.Float32frombits"], unfollowed := true, recurses := true, apart := false }
def FnExactUnitOfSaid : Prop := fnExactUnitOfRow.holds Try.pinned (OpenSpec.ofChange fnExactUnitOfSpec)

/-- ITS FALSE NEIGHBOUR: 'it returns false'. Refute it at one input. -/
def fnExactUnitOfWrong : ChangeSpec := { name := "fnExactUnitOf", fn := fun _ => fun
  | [d] => { results := [.lit (.bool false)], args := [d] }
  | _ => none }
def FnExactUnitOfWrongFalsely : Prop := fnExactUnitOfRow.holds Try.pinned (OpenSpec.ofChange fnExactUnitOfWrong)

/-- 'laws.FnExactSignOfDot': WHATEVER THE INPUT: true; the input reads as it did. -/
def fnExactSignOfDotSpec : ChangeSpec := { name := "fnExactSignOfDot", fn := fun _ => fun
  | [d1, d2] => { results := [.lit (.bool true)], args := [d1, d2] }
  | _ => none }
def fnExactSignOfDotRow : OpenClaim := { program := "ytanepboepeijoaa", sum := "1da582244576e752fc522a929b7eabb9215bd423cd85464578cc6473343a31dc", func := "loop.example/g01171/laws.FnExactSignOfDot", spec := "fnExactSignOfDot", inPlace := ["math.Float32bits", "math/bits.Add64", "math/bits.Sub64"], unfollowed := true, recurses := true, apart := false }
def FnExactSignOfDotSaid : Prop := fnExactSignOfDotRow.holds Try.pinned (OpenSpec.ofChange fnExactSignOfDotSpec)

/-- ITS FALSE NEIGHBOUR: 'it returns false'. Refute it at one input. -/
def fnExactSignOfDotWrong : ChangeSpec := { name := "fnExactSignOfDot", fn := fun _ => fun
  | [d1, d2] => { results := [.lit (.bool false)], args := [d1, d2] }
  | _ => none }
def FnExactSignOfDotWrongFalsely : Prop := fnExactSignOfDotRow.holds Try.pinned (OpenSpec.ofChange fnExactSignOfDotWrong)

/- THE SECOND FORM. 'bulk': how many values and letters a reading holds, each counted each time it is reached (what is shared counts as often as it is met; a slice's spare places count too). A statement '..UptoSaid' is the law's where the arguments, and the package variables that the reading takes, are together of bulk at most 1048576: NARROWER than '..Said'. Prove '..Said' where nothing that the law and all that it calls make is longer than what came in: it says more and counts as full. Else prove '..UptoSaid'. A law counts once. -/
mutual
def uptoBulk {H : Type} : DataW H → Nat
  | .lit (.string bytes) => bytes.length + 1
  | .lit _ => 1
  | .nil => 1
  | .ptr d => uptoBulk d + 1
  | .slice elems spare => uptoBulkAll elems + uptoBulkAll spare + 1
  | .agg parts => uptoBulkAll parts + 1
  | .iface _ d => uptoBulk d + 1
  | .map entries => uptoBulkEntries entries + 1
  | .held _ => 1
def uptoBulkAll {H : Type} : List (DataW H) → Nat
  | [] => 0
  | d :: r => uptoBulk d + uptoBulkAll r
def uptoBulkEntries {H : Type} : List (Lit × DataW H) → Nat
  | [] => 0
  | x :: r => uptoBulkEntry x + uptoBulkEntries r
def uptoBulkEntry {H : Type} : Lit × DataW H → Nat
  | (.string bytes, d) => bytes.length + uptoBulk d + 1
  | (_, d) => uptoBulk d + 1
 end
def uptoSmall : (H : Type) → List (DataW H) → Bool := fun _ ds => decide (uptoBulkAll ds ≤ 1048576)
def OpenSpec.upto (s : _root_.Go.ChangeSpec) : _root_.Go.OpenSpec := { _root_.Go.OpenSpec.ofChange s with cond := some uptoSmall }

/-- 'laws.FnExactIdentityMap', WHERE WHAT IT READS IS OF BULK AT MOST 1048576: true; the input reads as it did. -/
def fnExactIdentityMapUptoRow : OpenClaim := { program := "ytanepboepeijoaa", sum := "1da582244576e752fc522a929b7eabb9215bd423cd85464578cc6473343a31dc", func := "loop.example/g01171/laws.FnExactIdentityMap", spec := "fnExactIdentityMap", apart := false, narrowed := true }
def FnExactIdentityMapUptoSaid : Prop := fnExactIdentityMapUptoRow.holds Try.pinned (OpenSpec.upto fnExactIdentityMapSpec)

/-- 'laws.FnExactFlipMap', WHERE WHAT IT READS IS OF BULK AT MOST 1048576: true; the input reads as it did. -/
def fnExactFlipMapUptoRow : OpenClaim := { program := "ytanepboepeijoaa", sum := "1da582244576e752fc522a929b7eabb9215bd423cd85464578cc6473343a31dc", func := "loop.example/g01171/laws.FnExactFlipMap", spec := "fnExactFlipMap", apart := false, narrowed := true }
def FnExactFlipMapUptoSaid : Prop := fnExactFlipMapUptoRow.holds Try.pinned (OpenSpec.upto fnExactFlipMapSpec)

/-- 'laws.FnExactSortReals', WHERE WHAT IT READS IS OF BULK AT MOST 1048576: true; the input reads as it did. -/
def fnExactSortRealsUptoRow : OpenClaim := { program := "ytanepboepeijoaa", sum := "1da582244576e752fc522a929b7eabb9215bd423cd85464578cc6473343a31dc", func := "loop.example/g01171/laws.FnExactSortReals", spec := "fnExactSortReals", inPlace := ["math.Float32bits"], unfollowed := true, recurses := true, apart := false, narrowed := true }
def FnExactSortRealsUptoSaid : Prop := fnExactSortRealsUptoRow.holds Try.pinned (OpenSpec.upto fnExactSortRealsSpec)

/-- 'laws.FnExactUnitOf', WHERE WHAT IT READS IS OF BULK AT MOST 1048576: true; the input reads as it did. -/
def fnExactUnitOfUptoRow : OpenClaim := { program := "ytanepboepeijoaa", sum := "1da582244576e752fc522a929b7eabb9215bd423cd85464578cc6473343a31dc", func := "loop.example/g01171/laws.FnExactUnitOf", spec := "fnExactUnitOf", inPlace := ["math.Float32bits", "math.Float64frombits", "math/bits.Add64", "math/bits.Sub64", "math.Float32frombits"], unfollowed := true, recurses := true, apart := false, narrowed := true }
def FnExactUnitOfUptoSaid : Prop := fnExactUnitOfUptoRow.holds Try.pinned (OpenSpec.upto fnExactUnitOfSpec)

/-- 'laws.FnExactSignOfDot', WHERE WHAT IT READS IS OF BULK AT MOST 1048576: true; the input reads as it did. -/
def fnExactSignOfDotUptoRow : OpenClaim := { program := "ytanepboepeijoaa", sum := "1da582244576e752fc522a929b7eabb9215bd423cd85464578cc6473343a31dc", func := "loop.example/g01171/laws.FnExactSignOfDot", spec := "fnExactSignOfDot", inPlace := ["math.Float32bits", "math/bits.Add64", "math/bits.Sub64"], unfollowed := true, recurses := true, apart := false, narrowed := true }
def FnExactSignOfDotUptoSaid : Prop := fnExactSignOfDotUptoRow.holds Try.pinned (OpenSpec.upto fnExactSignOfDotSpec)

end Rows
end Go.Proofs.Ytanepboepeijoaa
