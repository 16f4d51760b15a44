/-
  No cell of these rows narrows 'for every input' (looked for: loops, veiled, ifaces, maps, wideKeys, modest, calm, conditions, laid).
  DERIVED. THE GIVEN ROWS OF THIS SEAT. 10 by the template 'for every input the law returns true; each argument reads behind the call as it read before'; 0 by the template 'total and deterministic' (their statements: YtjlghkhadfcfdaaTotals.lean).
  GIVEN WITH THE SEED: the statements are not yours to turn. If you find one false, say at which input.
  Laid BY PROGRAM, IN A SANDBOX (cutbox-rows.mjs): the forced cells as the released guide's own fill.sh prints them over the translation 9a176bc33fe792f4… (all of the seat's roots in one cut). By AI agents, Wed Nov 11 2026. No macro, syntax, notation, axiom, sorry.
-/
import Derived.Test.YtjlghkhadfcfdaaChecked
import GoSem.Claim
import GoSem.ClaimJoined
import GoSem.ClaimMapViews
import Derived.JoinedTies
import Derived.KernelRfl
namespace Go.Proofs.Ytjlghkhadfcfdaa
/- THE CELL 'sum', in the pinned program and in every row, IS THE sha256 OF THE DUMP (.gsa) THAT YtjlghkhadfcfdaaProg.lean LOADS. Nothing in Lean hashes anything: it is a label: what it is worth is what the hold of that sum in a sandbox is worth. -/
noncomputable def Try.pinned : Pinned := { name := "ytjlghkhadfcfdaa", sum := "9a176bc33fe792f42931850eb3e6401617977d3849619ba176b6e47c72c3009a", checked := Try.checked }
namespace Rows
def none {H : Type} : Left H := { results := [], args := [] }

/-- 'laws.FnExactUnitOf': WHATEVER THE INPUT: true; the input reads as it did. -/
def fnExactUnitOfSpec : ChangeSpec := { name := "fnExactUnitOf", fn := fun _ => fun
  | [d] => { results := [.lit (.bool true)], args := [d] }
  | _ => none }
def fnExactUnitOfRow : OpenClaim := { program := "ytjlghkhadfcfdaa", sum := "9a176bc33fe792f42931850eb3e6401617977d3849619ba176b6e47c72c3009a", func := "loop.example/g01171/laws.FnExactUnitOf", spec := "fnExactUnitOf", inPlace := ["math.Float32bits", "math.Float64frombits", "math/bits.Add64", "math/bits.Sub64", "math.Float32frombits"], unfollowed := true, recurses := true, apart := false }
def FnExactUnitOfSaid : Prop := fnExactUnitOfRow.holds Try.pinned (OpenSpec.ofChange fnExactUnitOfSpec)

/-- ITS FALSE NEIGHBOUR: 'it returns false'. Refute it at one input. -/
def fnExactUnitOfWrong : ChangeSpec := { name := "fnExactUnitOf", fn := fun _ => fun
  | [d] => { results := [.lit (.bool false)], args := [d] }
  | _ => none }
def FnExactUnitOfWrongFalsely : Prop := fnExactUnitOfRow.holds Try.pinned (OpenSpec.ofChange fnExactUnitOfWrong)

/-- 'laws.FnExactJoinReal': WHATEVER THE INPUT: true; the input reads as it did. -/
def fnExactJoinRealSpec : ChangeSpec := { name := "fnExactJoinReal", fn := fun _ => fun
  | [d1, d2, d3] => { results := [.lit (.bool true)], args := [d1, d2, d3] }
  | _ => none }
def fnExactJoinRealRow : OpenClaim := { program := "ytjlghkhadfcfdaa", sum := "9a176bc33fe792f42931850eb3e6401617977d3849619ba176b6e47c72c3009a", func := "loop.example/g01171/laws.FnExactJoinReal", spec := "fnExactJoinReal", inPlace := ["math.Float64frombits", "math/bits.Add64", "math/bits.Sub64", "math.Float32bits", "math.Float32frombits"], unfollowed := true, recurses := true, apart := false }
def FnExactJoinRealSaid : Prop := fnExactJoinRealRow.holds Try.pinned (OpenSpec.ofChange fnExactJoinRealSpec)

/-- ITS FALSE NEIGHBOUR: 'it returns false'. Refute it at one input. -/
def fnExactJoinRealWrong : ChangeSpec := { name := "fnExactJoinReal", fn := fun _ => fun
  | [d1, d2, d3] => { results := [.lit (.bool false)], args := [d1, d2, d3] }
  | _ => none }
def FnExactJoinRealWrongFalsely : Prop := fnExactJoinRealRow.holds Try.pinned (OpenSpec.ofChange fnExactJoinRealWrong)

/-- 'laws.FnExactScaleReal': WHATEVER THE INPUT: true; the input reads as it did. -/
def fnExactScaleRealSpec : ChangeSpec := { name := "fnExactScaleReal", fn := fun _ => fun
  | [d1, d2] => { results := [.lit (.bool true)], args := [d1, d2] }
  | _ => none }
def fnExactScaleRealRow : OpenClaim := { program := "ytjlghkhadfcfdaa", sum := "9a176bc33fe792f42931850eb3e6401617977d3849619ba176b6e47c72c3009a", func := "loop.example/g01171/laws.FnExactScaleReal", spec := "fnExactScaleReal", inPlace := ["math.Float64frombits", "math.Float32bits", "math/bits.Add64", "math/bits.Sub64", "math.Float32frombits"], unfollowed := true, recurses := true, apart := false }
def FnExactScaleRealSaid : Prop := fnExactScaleRealRow.holds Try.pinned (OpenSpec.ofChange fnExactScaleRealSpec)

/-- ITS FALSE NEIGHBOUR: 'it returns false'. Refute it at one input. -/
def fnExactScaleRealWrong : ChangeSpec := { name := "fnExactScaleReal", fn := fun _ => fun
  | [d1, d2] => { results := [.lit (.bool false)], args := [d1, d2] }
  | _ => none }
def FnExactScaleRealWrongFalsely : Prop := fnExactScaleRealRow.holds Try.pinned (OpenSpec.ofChange fnExactScaleRealWrong)

/-- 'laws.FnExactSumOf': WHATEVER THE INPUT: true; the input reads as it did. -/
def fnExactSumOfSpec : ChangeSpec := { name := "fnExactSumOf", fn := fun _ => fun
  | [d] => { results := [.lit (.bool true)], args := [d] }
  | _ => none }
def fnExactSumOfRow : OpenClaim := { program := "ytjlghkhadfcfdaa", sum := "9a176bc33fe792f42931850eb3e6401617977d3849619ba176b6e47c72c3009a", func := "loop.example/g01171/laws.FnExactSumOf", spec := "fnExactSumOf", apart := false }
def FnExactSumOfSaid : Prop := fnExactSumOfRow.holds Try.pinned (OpenSpec.ofChange fnExactSumOfSpec)

/-- ITS FALSE NEIGHBOUR: 'it returns false'. Refute it at one input. -/
def fnExactSumOfWrong : ChangeSpec := { name := "fnExactSumOf", fn := fun _ => fun
  | [d] => { results := [.lit (.bool false)], args := [d] }
  | _ => none }
def FnExactSumOfWrongFalsely : Prop := fnExactSumOfRow.holds Try.pinned (OpenSpec.ofChange fnExactSumOfWrong)

/-- 'laws.FnExactDotOf': WHATEVER THE INPUT: true; the input reads as it did. -/
def fnExactDotOfSpec : ChangeSpec := { name := "fnExactDotOf", fn := fun _ => fun
  | [d1, d2] => { results := [.lit (.bool true)], args := [d1, d2] }
  | _ => none }
def fnExactDotOfRow : OpenClaim := { program := "ytjlghkhadfcfdaa", sum := "9a176bc33fe792f42931850eb3e6401617977d3849619ba176b6e47c72c3009a", func := "loop.example/g01171/laws.FnExactDotOf", spec := "fnExactDotOf", apart := false }
def FnExactDotOfSaid : Prop := fnExactDotOfRow.holds Try.pinned (OpenSpec.ofChange fnExactDotOfSpec)

/-- ITS FALSE NEIGHBOUR: 'it returns false'. Refute it at one input. -/
def fnExactDotOfWrong : ChangeSpec := { name := "fnExactDotOf", fn := fun _ => fun
  | [d1, d2] => { results := [.lit (.bool false)], args := [d1, d2] }
  | _ => none }
def FnExactDotOfWrongFalsely : Prop := fnExactDotOfRow.holds Try.pinned (OpenSpec.ofChange fnExactDotOfWrong)

/-- 'laws.FnExactExactSum': WHATEVER THE INPUT: true; the input reads as it did. -/
def fnExactExactSumSpec : ChangeSpec := { name := "fnExactExactSum", fn := fun _ => fun
  | [d] => { results := [.lit (.bool true)], args := [d] }
  | _ => none }
def fnExactExactSumRow : OpenClaim := { program := "ytjlghkhadfcfdaa", sum := "9a176bc33fe792f42931850eb3e6401617977d3849619ba176b6e47c72c3009a", func := "loop.example/g01171/laws.FnExactExactSum", spec := "fnExactExactSum", inPlace := ["math.Float64frombits", "math.Float32bits", "math/bits.Add64", "math/bits.Sub64", "math.Float32frombits"], unfollowed := true, recurses := true, apart := false }
def FnExactExactSumSaid : Prop := fnExactExactSumRow.holds Try.pinned (OpenSpec.ofChange fnExactExactSumSpec)

/-- ITS FALSE NEIGHBOUR: 'it returns false'. Refute it at one input. -/
def fnExactExactSumWrong : ChangeSpec := { name := "fnExactExactSum", fn := fun _ => fun
  | [d] => { results := [.lit (.bool false)], args := [d] }
  | _ => none }
def FnExactExactSumWrongFalsely : Prop := fnExactExactSumRow.holds Try.pinned (OpenSpec.ofChange fnExactExactSumWrong)

/-- 'laws.FnExactExactDot': WHATEVER THE INPUT: true; the input reads as it did. -/
def fnExactExactDotSpec : ChangeSpec := { name := "fnExactExactDot", fn := fun _ => fun
  | [d1, d2] => { results := [.lit (.bool true)], args := [d1, d2] }
  | _ => none }
def fnExactExactDotRow : OpenClaim := { program := "ytjlghkhadfcfdaa", sum := "9a176bc33fe792f42931850eb3e6401617977d3849619ba176b6e47c72c3009a", func := "loop.example/g01171/laws.FnExactExactDot", spec := "fnExactExactDot", inPlace := ["math.Float64frombits", "math.Float32bits", "math/bits.Add64", "math/bits.Sub64", "math.Float32frombits"], unfollowed := true, recurses := true, apart := false }
def FnExactExactDotSaid : Prop := fnExactExactDotRow.holds Try.pinned (OpenSpec.ofChange fnExactExactDotSpec)

/-- ITS FALSE NEIGHBOUR: 'it returns false'. Refute it at one input. -/
def fnExactExactDotWrong : ChangeSpec := { name := "fnExactExactDot", fn := fun _ => fun
  | [d1, d2] => { results := [.lit (.bool false)], args := [d1, d2] }
  | _ => none }
def FnExactExactDotWrongFalsely : Prop := fnExactExactDotRow.holds Try.pinned (OpenSpec.ofChange fnExactExactDotWrong)

/-- 'laws.FnExactSignOfDot': WHATEVER THE INPUT: true; the input reads as it did. -/
def fnExactSignOfDotSpec : ChangeSpec := { name := "fnExactSignOfDot", fn := fun _ => fun
  | [d1, d2] => { results := [.lit (.bool true)], args := [d1, d2] }
  | _ => none }
def fnExactSignOfDotRow : OpenClaim := { program := "ytjlghkhadfcfdaa", sum := "9a176bc33fe792f42931850eb3e6401617977d3849619ba176b6e47c72c3009a", func := "loop.example/g01171/laws.FnExactSignOfDot", spec := "fnExactSignOfDot", inPlace := ["math.Float32bits", "math/bits.Add64", "math/bits.Sub64"], unfollowed := true, recurses := true, apart := false }
def FnExactSignOfDotSaid : Prop := fnExactSignOfDotRow.holds Try.pinned (OpenSpec.ofChange fnExactSignOfDotSpec)

/-- ITS FALSE NEIGHBOUR: 'it returns false'. Refute it at one input. -/
def fnExactSignOfDotWrong : ChangeSpec := { name := "fnExactSignOfDot", fn := fun _ => fun
  | [d1, d2] => { results := [.lit (.bool false)], args := [d1, d2] }
  | _ => none }
def FnExactSignOfDotWrongFalsely : Prop := fnExactSignOfDotRow.holds Try.pinned (OpenSpec.ofChange fnExactSignOfDotWrong)

/-- 'laws.FnExactSums': WHATEVER THE INPUT: true; the input reads as it did. -/
def fnExactSumsSpec : ChangeSpec := { name := "fnExactSums", fn := fun _ => fun
  | [d1, d2] => { results := [.lit (.bool true)], args := [d1, d2] }
  | _ => none }
def fnExactSumsRow : OpenClaim := { program := "ytjlghkhadfcfdaa", sum := "9a176bc33fe792f42931850eb3e6401617977d3849619ba176b6e47c72c3009a", func := "loop.example/g01171/laws.FnExactSums", spec := "fnExactSums", inPlace := ["math.Float32frombits", "math.Float64frombits", "math.Float64bits", "math.Float32bits", "math/bits.Add64", "math/bits.Sub64"], unfollowed := true, recurses := true, apart := false }
def FnExactSumsSaid : Prop := fnExactSumsRow.holds Try.pinned (OpenSpec.ofChange fnExactSumsSpec)

/-- ITS FALSE NEIGHBOUR: 'it returns false'. Refute it at one input. -/
def fnExactSumsWrong : ChangeSpec := { name := "fnExactSums", fn := fun _ => fun
  | [d1, d2] => { results := [.lit (.bool false)], args := [d1, d2] }
  | _ => none }
def FnExactSumsWrongFalsely : Prop := fnExactSumsRow.holds Try.pinned (OpenSpec.ofChange fnExactSumsWrong)

/-- 'laws.FnScaled': WHATEVER THE INPUT: true; the input reads as it did. -/
def fnScaledSpec : ChangeSpec := { name := "fnScaled", fn := fun _ => fun
  | [d1, d2] => { results := [.lit (.bool true)], args := [d1, d2] }
  | _ => none }
def fnScaledRow : OpenClaim := { program := "ytjlghkhadfcfdaa", sum := "9a176bc33fe792f42931850eb3e6401617977d3849619ba176b6e47c72c3009a", func := "loop.example/g01171/laws.FnScaled", spec := "fnScaled", inPlace := ["math.Float32bits", "math/bits.Add64", "math/bits.Sub64", "math.Float32frombits", "math.Float64frombits", "math.Float64bits", "math.sqrt"], unfollowed := true, recurses := true, apart := false }
def FnScaledSaid : Prop := fnScaledRow.holds Try.pinned (OpenSpec.ofChange fnScaledSpec)

/-- ITS FALSE NEIGHBOUR: 'it returns false'. Refute it at one input. -/
def fnScaledWrong : ChangeSpec := { name := "fnScaled", fn := fun _ => fun
  | [d1, d2] => { results := [.lit (.bool false)], args := [d1, d2] }
  | _ => none }
def FnScaledWrongFalsely : Prop := fnScaledRow.holds Try.pinned (OpenSpec.ofChange fnScaledWrong)

/- THE SECOND FORM. 'bulk': how many values and letters a reading holds, each counted each time it is reached (what is shared counts as often as it is met; a slice's spare places count too). A statement '..UptoSaid' is the law's where the arguments, and the package variables that the reading takes, are together of bulk at most 1048576: NARROWER than '..Said'. Prove '..Said' where nothing that the law and all that it calls make is longer than what came in: it says more and counts as full. Else prove '..UptoSaid'. A law counts once. -/
mutual
def uptoBulk {H : Type} : DataW H → Nat
  | .lit (.string bytes) => bytes.length + 1
  | .lit _ => 1
  | .nil => 1
  | .ptr d => uptoBulk d + 1
  | .slice elems spare => uptoBulkAll elems + uptoBulkAll spare + 1
  | .agg parts => uptoBulkAll parts + 1
  | .iface _ d => uptoBulk d + 1
  | .map entries => uptoBulkEntries entries + 1
  | .held _ => 1
def uptoBulkAll {H : Type} : List (DataW H) → Nat
  | [] => 0
  | d :: r => uptoBulk d + uptoBulkAll r
def uptoBulkEntries {H : Type} : List (Lit × DataW H) → Nat
  | [] => 0
  | x :: r => uptoBulkEntry x + uptoBulkEntries r
def uptoBulkEntry {H : Type} : Lit × DataW H → Nat
  | (.string bytes, d) => bytes.length + uptoBulk d + 1
  | (_, d) => uptoBulk d + 1
 end
def uptoSmall : (H : Type) → List (DataW H) → Bool := fun _ ds => decide (uptoBulkAll ds ≤ 1048576)
def OpenSpec.upto (s : _root_.Go.ChangeSpec) : _root_.Go.OpenSpec := { _root_.Go.OpenSpec.ofChange s with cond := some uptoSmall }

/-- 'laws.FnExactUnitOf', WHERE WHAT IT READS IS OF BULK AT MOST 1048576: true; the input reads as it did. -/
def fnExactUnitOfUptoRow : OpenClaim := { program := "ytjlghkhadfcfdaa", sum := "9a176bc33fe792f42931850eb3e6401617977d3849619ba176b6e47c72c3009a", func := "loop.example/g01171/laws.FnExactUnitOf", spec := "fnExactUnitOf", inPlace := ["math.Float32bits", "math.Float64frombits", "math/bits.Add64", "math/bits.Sub64", "math.Float32frombits"], unfollowed := true, recurses := true, apart := false, narrowed := true }
def FnExactUnitOfUptoSaid : Prop := fnExactUnitOfUptoRow.holds Try.pinned (OpenSpec.upto fnExactUnitOfSpec)

/-- 'laws.FnExactJoinReal', WHERE WHAT IT READS IS OF BULK AT MOST 1048576: true; the input reads as it did. -/
def fnExactJoinRealUptoRow : OpenClaim := { program := "ytjlghkhadfcfdaa", sum := "9a176bc33fe792f42931850eb3e6401617977d3849619ba176b6e47c72c3009a", func := "loop.example/g01171/laws.FnExactJoinReal", spec := "fnExactJoinReal", inPlace := ["math.Float64frombits", "math/bits.Add64", "math/bits.Sub64", "math.Float32bits", "math.Float32frombits"], unfollowed := true, recurses := true, apart := false, narrowed := true }
def FnExactJoinRealUptoSaid : Prop := fnExactJoinRealUptoRow.holds Try.pinned (OpenSpec.upto fnExactJoinRealSpec)

/-- 'laws.FnExactScaleReal', WHERE WHAT IT READS IS OF BULK AT MOST 1048576: true; the input reads as it did. -/
def fnExactScaleRealUptoRow : OpenClaim := { program := "ytjlghkhadfcfdaa", sum := "9a176bc33fe792f42931850eb3e6401617977d3849619ba176b6e47c72c3009a", func := "loop.example/g01171/laws.FnExactScaleReal", spec := "fnExactScaleReal", inPlace := ["math.Float64frombits", "math.Float32bits", "math/bits.Add64", "math/bits.Sub64", "math.Float32frombits"], unfollowed := true, recurses := true, apart := false, narrowed := true }
def FnExactScaleRealUptoSaid : Prop := fnExactScaleRealUptoRow.holds Try.pinned (OpenSpec.upto fnExactScaleRealSpec)

/-- 'laws.FnExactSumOf', WHERE WHAT IT READS IS OF BULK AT MOST 1048576: true; the input reads as it did. -/
def fnExactSumOfUptoRow : OpenClaim := { program := "ytjlghkhadfcfdaa", sum := "9a176bc33fe792f42931850eb3e6401617977d3849619ba176b6e47c72c3009a", func := "loop.example/g01171/laws.FnExactSumOf", spec := "fnExactSumOf", apart := false, narrowed := true }
def FnExactSumOfUptoSaid : Prop := fnExactSumOfUptoRow.holds Try.pinned (OpenSpec.upto fnExactSumOfSpec)

/-- 'laws.FnExactDotOf', WHERE WHAT IT READS IS OF BULK AT MOST 1048576: true; the input reads as it did. -/
def fnExactDotOfUptoRow : OpenClaim := { program := "ytjlghkhadfcfdaa", sum := "9a176bc33fe792f42931850eb3e6401617977d3849619ba176b6e47c72c3009a", func := "loop.example/g01171/laws.FnExactDotOf", spec := "fnExactDotOf", apart := false, narrowed := true }
def FnExactDotOfUptoSaid : Prop := fnExactDotOfUptoRow.holds Try.pinned (OpenSpec.upto fnExactDotOfSpec)

/-- 'laws.FnExactExactSum', WHERE WHAT IT READS IS OF BULK AT MOST 1048576: true; the input reads as it did. -/
def fnExactExactSumUptoRow : OpenClaim := { program := "ytjlghkhadfcfdaa", sum := "9a176bc33fe792f42931850eb3e6401617977d3849619ba176b6e47c72c3009a", func := "loop.example/g01171/laws.FnExactExactSum", spec := "fnExactExactSum", inPlace := ["math.Float64frombits", "math.Float32bits", "math/bits.Add64", "math/bits.Sub64", "math.Float32frombits"], unfollowed := true, recurses := true, apart := false, narrowed := true }
def FnExactExactSumUptoSaid : Prop := fnExactExactSumUptoRow.holds Try.pinned (OpenSpec.upto fnExactExactSumSpec)

/-- 'laws.FnExactExactDot', WHERE WHAT IT READS IS OF BULK AT MOST 1048576: true; the input reads as it did. -/
def fnExactExactDotUptoRow : OpenClaim := { program := "ytjlghkhadfcfdaa", sum := "9a176bc33fe792f42931850eb3e6401617977d3849619ba176b6e47c72c3009a", func := "loop.example/g01171/laws.FnExactExactDot", spec := "fnExactExactDot", inPlace := ["math.Float64frombits", "math.Float32bits", "math/bits.Add64", "math/bits.Sub64", "math.Float32frombits"], unfollowed := true, recurses := true, apart := false, narrowed := true }
def FnExactExactDotUptoSaid : Prop := fnExactExactDotUptoRow.holds Try.pinned (OpenSpec.upto fnExactExactDotSpec)

/-- 'laws.FnExactSignOfDot', WHERE WHAT IT READS IS OF BULK AT MOST 1048576: true; the input reads as it did. -/
def fnExactSignOfDotUptoRow : OpenClaim := { program := "ytjlghkhadfcfdaa", sum := "9a176bc33fe792f42931850eb3e6401617977d3849619ba176b6e47c72c3009a", func := "loop.example/g01171/laws.FnExactSignOfDot", spec := "fnExactSignOfDot", inPlace := ["math.Float32bits", "math/bits.Add64", "math/bits.Sub64"], unfollowed := true, recurses := true, apart := false, narrowed := true }
def FnExactSignOfDotUptoSaid : Prop := fnExactSignOfDotUptoRow.holds Try.pinned (OpenSpec.upto fnExactSignOfDotSpec)

/-- 'laws.FnExactSums', WHERE WHAT IT READS IS OF BULK AT MOST 1048576: true; the input reads as it did. -/
def fnExactSumsUptoRow : OpenClaim := { program := "ytjlghkhadfcfdaa", sum := "9a176bc33fe792f42931850eb3e6401617977d3849619ba176b6e47c72c3009a", func := "loop.example/g01171/laws.FnExactSums", spec := "fnExactSums", inPlace := ["math.Float32frombits", "math.Float64frombits", "math.Float64bits", "math.Float32bits", "math/bits.Add64", "math/bits.Sub64"], unfollowed := true, recurses := true, apart := false, narrowed := true }
def FnExactSumsUptoSaid : Prop := fnExactSumsUptoRow.holds Try.pinned (OpenSpec.upto fnExactSumsSpec)

/-- 'laws.FnScaled', WHERE WHAT IT READS IS OF BULK AT MOST 1048576: true; the input reads as it did. -/
def fnScaledUptoRow : OpenClaim := { program := "ytjlghkhadfcfdaa", sum := "9a176bc33fe792f42931850eb3e6401617977d3849619ba176b6e47c72c3009a", func := "loop.example/g01171/laws.FnScaled", spec := "fnScaled", inPlace := ["math.Float32bits", "math/bits.Add64", "math/bits.Sub64", "math.Float32frombits", "math.Float64frombits", "math.Float64bits", "math.sqrt"], unfollowed := true, recurses := true, apart := false, narrowed := true }
def FnScaledUptoSaid : Prop := fnScaledUptoRow.holds Try.pinned (OpenSpec.upto fnScaledSpec)

end Rows
end Go.Proofs.Ytjlghkhadfcfdaa
