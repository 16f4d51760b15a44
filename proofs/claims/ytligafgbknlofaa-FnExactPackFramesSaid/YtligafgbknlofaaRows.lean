/-
  No cell of these rows narrows 'for every input' (looked for: loops, veiled, ifaces, maps, wideKeys, modest, calm, conditions, laid).
  DERIVED. THE GIVEN ROWS OF THIS SEAT. 9 by the template 'for every input the law returns true; each argument reads behind the call as it read before'; 0 by the template 'total and deterministic' (their statements: YtligafgbknlofaaTotals.lean).
  GIVEN WITH THE SEED: the statements are not yours to turn. If you find one false, say at which input.
  Laid BY PROGRAM, IN A SANDBOX (cutbox-rows.mjs): the forced cells as the released guide's own fill.sh prints them over the translation 3ae7c167e3bc8f58… (all of the seat's roots in one cut). By AI agents, Wed Nov 11 2026. No macro, syntax, notation, axiom, sorry.
-/
import Derived.Test.YtligafgbknlofaaChecked
import GoSem.Claim
import GoSem.ClaimJoined
import GoSem.ClaimMapViews
import Derived.JoinedTies
import Derived.KernelRfl
namespace Go.Proofs.Ytligafgbknlofaa
/- THE CELL 'sum', in the pinned program and in every row, IS THE sha256 OF THE DUMP (.gsa) THAT YtligafgbknlofaaProg.lean LOADS. Nothing in Lean hashes anything: it is a label: what it is worth is what the hold of that sum in a sandbox is worth. -/
noncomputable def Try.pinned : Pinned := { name := "ytligafgbknlofaa", sum := "3ae7c167e3bc8f58d8fee2abbc021713863e33009a1f2824e299bcdaacf8571e", checked := Try.checked }
namespace Rows
def none {H : Type} : Left H := { results := [], args := [] }

/-- 'laws.FnExactCheckOf': WHATEVER THE INPUT: true; the input reads as it did. -/
def fnExactCheckOfSpec : ChangeSpec := { name := "fnExactCheckOf", fn := fun _ => fun
  | [d1, d2] => { results := [.lit (.bool true)], args := [d1, d2] }
  | _ => none }
def fnExactCheckOfRow : OpenClaim := { program := "ytligafgbknlofaa", sum := "3ae7c167e3bc8f58d8fee2abbc021713863e33009a1f2824e299bcdaacf8571e", func := "loop.example/g01171/laws.FnExactCheckOf", spec := "fnExactCheckOf", apart := false }
def FnExactCheckOfSaid : Prop := fnExactCheckOfRow.holds Try.pinned (OpenSpec.ofChange fnExactCheckOfSpec)

/-- ITS FALSE NEIGHBOUR: 'it returns false'. Refute it at one input. -/
def fnExactCheckOfWrong : ChangeSpec := { name := "fnExactCheckOf", fn := fun _ => fun
  | [d1, d2] => { results := [.lit (.bool false)], args := [d1, d2] }
  | _ => none }
def FnExactCheckOfWrongFalsely : Prop := fnExactCheckOfRow.holds Try.pinned (OpenSpec.ofChange fnExactCheckOfWrong)

/-- 'laws.FnExactMakeFrame': WHATEVER THE INPUT: true; the input reads as it did. -/
def fnExactMakeFrameSpec : ChangeSpec := { name := "fnExactMakeFrame", fn := fun _ => fun
  | [d1, d2] => { results := [.lit (.bool true)], args := [d1, d2] }
  | _ => none }
def fnExactMakeFrameRow : OpenClaim := { program := "ytligafgbknlofaa", sum := "3ae7c167e3bc8f58d8fee2abbc021713863e33009a1f2824e299bcdaacf8571e", func := "loop.example/g01171/laws.FnExactMakeFrame", spec := "fnExactMakeFrame", apart := false }
def FnExactMakeFrameSaid : Prop := fnExactMakeFrameRow.holds Try.pinned (OpenSpec.ofChange fnExactMakeFrameSpec)

/-- ITS FALSE NEIGHBOUR: 'it returns false'. Refute it at one input. -/
def fnExactMakeFrameWrong : ChangeSpec := { name := "fnExactMakeFrame", fn := fun _ => fun
  | [d1, d2] => { results := [.lit (.bool false)], args := [d1, d2] }
  | _ => none }
def FnExactMakeFrameWrongFalsely : Prop := fnExactMakeFrameRow.holds Try.pinned (OpenSpec.ofChange fnExactMakeFrameWrong)

/-- 'laws.FnExactPayloadOf': WHATEVER THE INPUT: true; the input reads as it did. -/
def fnExactPayloadOfSpec : ChangeSpec := { name := "fnExactPayloadOf", fn := fun _ => fun
  | [d] => { results := [.lit (.bool true)], args := [d] }
  | _ => none }
def fnExactPayloadOfRow : OpenClaim := { program := "ytligafgbknlofaa", sum := "3ae7c167e3bc8f58d8fee2abbc021713863e33009a1f2824e299bcdaacf8571e", func := "loop.example/g01171/laws.FnExactPayloadOf", spec := "fnExactPayloadOf", apart := false }
def FnExactPayloadOfSaid : Prop := fnExactPayloadOfRow.holds Try.pinned (OpenSpec.ofChange fnExactPayloadOfSpec)

/-- ITS FALSE NEIGHBOUR: 'it returns false'. Refute it at one input. -/
def fnExactPayloadOfWrong : ChangeSpec := { name := "fnExactPayloadOf", fn := fun _ => fun
  | [d] => { results := [.lit (.bool false)], args := [d] }
  | _ => none }
def FnExactPayloadOfWrongFalsely : Prop := fnExactPayloadOfRow.holds Try.pinned (OpenSpec.ofChange fnExactPayloadOfWrong)

/-- 'laws.FnExactIsSound': WHATEVER THE INPUT: true; the input reads as it did. -/
def fnExactIsSoundSpec : ChangeSpec := { name := "fnExactIsSound", fn := fun _ => fun
  | [d1, d2] => { results := [.lit (.bool true)], args := [d1, d2] }
  | _ => none }
def fnExactIsSoundRow : OpenClaim := { program := "ytligafgbknlofaa", sum := "3ae7c167e3bc8f58d8fee2abbc021713863e33009a1f2824e299bcdaacf8571e", func := "loop.example/g01171/laws.FnExactIsSound", spec := "fnExactIsSound", apart := false }
def FnExactIsSoundSaid : Prop := fnExactIsSoundRow.holds Try.pinned (OpenSpec.ofChange fnExactIsSoundSpec)

/-- ITS FALSE NEIGHBOUR: 'it returns false'. Refute it at one input. -/
def fnExactIsSoundWrong : ChangeSpec := { name := "fnExactIsSound", fn := fun _ => fun
  | [d1, d2] => { results := [.lit (.bool false)], args := [d1, d2] }
  | _ => none }
def FnExactIsSoundWrongFalsely : Prop := fnExactIsSoundRow.holds Try.pinned (OpenSpec.ofChange fnExactIsSoundWrong)

/-- 'laws.FnExactPackFrames': WHATEVER THE INPUT: true; the input reads as it did. -/
def fnExactPackFramesSpec : ChangeSpec := { name := "fnExactPackFrames", fn := fun _ => fun
  | [d1, d2, d3] => { results := [.lit (.bool true)], args := [d1, d2, d3] }
  | _ => none }
def fnExactPackFramesRow : OpenClaim := { program := "ytligafgbknlofaa", sum := "3ae7c167e3bc8f58d8fee2abbc021713863e33009a1f2824e299bcdaacf8571e", func := "loop.example/g01171/laws.FnExactPackFrames", spec := "fnExactPackFrames", unfollowed := true, recurses := true, apart := false }
def FnExactPackFramesSaid : Prop := fnExactPackFramesRow.holds Try.pinned (OpenSpec.ofChange fnExactPackFramesSpec)

/-- ITS FALSE NEIGHBOUR: 'it returns false'. Refute it at one input. -/
def fnExactPackFramesWrong : ChangeSpec := { name := "fnExactPackFrames", fn := fun _ => fun
  | [d1, d2, d3] => { results := [.lit (.bool false)], args := [d1, d2, d3] }
  | _ => none }
def FnExactPackFramesWrongFalsely : Prop := fnExactPackFramesRow.holds Try.pinned (OpenSpec.ofChange fnExactPackFramesWrong)

/-- 'laws.FnExactUnpackFrames': WHATEVER THE INPUT: true; the input reads as it did. -/
def fnExactUnpackFramesSpec : ChangeSpec := { name := "fnExactUnpackFrames", fn := fun _ => fun
  | [d] => { results := [.lit (.bool true)], args := [d] }
  | _ => none }
def fnExactUnpackFramesRow : OpenClaim := { program := "ytligafgbknlofaa", sum := "3ae7c167e3bc8f58d8fee2abbc021713863e33009a1f2824e299bcdaacf8571e", func := "loop.example/g01171/laws.FnExactUnpackFrames", spec := "fnExactUnpackFrames", unfollowed := true, recurses := true, apart := false }
def FnExactUnpackFramesSaid : Prop := fnExactUnpackFramesRow.holds Try.pinned (OpenSpec.ofChange fnExactUnpackFramesSpec)

/-- ITS FALSE NEIGHBOUR: 'it returns false'. Refute it at one input. -/
def fnExactUnpackFramesWrong : ChangeSpec := { name := "fnExactUnpackFrames", fn := fun _ => fun
  | [d] => { results := [.lit (.bool false)], args := [d] }
  | _ => none }
def FnExactUnpackFramesWrongFalsely : Prop := fnExactUnpackFramesRow.holds Try.pinned (OpenSpec.ofChange fnExactUnpackFramesWrong)

/-- 'laws.FnExactSpoilFrame': WHATEVER THE INPUT: true; the input reads as it did. -/
def fnExactSpoilFrameSpec : ChangeSpec := { name := "fnExactSpoilFrame", fn := fun _ => fun
  | [d1, d2, d3] => { results := [.lit (.bool true)], args := [d1, d2, d3] }
  | _ => none }
def fnExactSpoilFrameRow : OpenClaim := { program := "ytligafgbknlofaa", sum := "3ae7c167e3bc8f58d8fee2abbc021713863e33009a1f2824e299bcdaacf8571e", func := "loop.example/g01171/laws.FnExactSpoilFrame", spec := "fnExactSpoilFrame", apart := false }
def FnExactSpoilFrameSaid : Prop := fnExactSpoilFrameRow.holds Try.pinned (OpenSpec.ofChange fnExactSpoilFrameSpec)

/-- ITS FALSE NEIGHBOUR: 'it returns false'. Refute it at one input. -/
def fnExactSpoilFrameWrong : ChangeSpec := { name := "fnExactSpoilFrame", fn := fun _ => fun
  | [d1, d2, d3] => { results := [.lit (.bool false)], args := [d1, d2, d3] }
  | _ => none }
def FnExactSpoilFrameWrongFalsely : Prop := fnExactSpoilFrameRow.holds Try.pinned (OpenSpec.ofChange fnExactSpoilFrameWrong)

/-- 'laws.FnExactBytesOfFrames': WHATEVER THE INPUT: true; the input reads as it did. -/
def fnExactBytesOfFramesSpec : ChangeSpec := { name := "fnExactBytesOfFrames", fn := fun _ => fun
  | [d] => { results := [.lit (.bool true)], args := [d] }
  | _ => none }
def fnExactBytesOfFramesRow : OpenClaim := { program := "ytligafgbknlofaa", sum := "3ae7c167e3bc8f58d8fee2abbc021713863e33009a1f2824e299bcdaacf8571e", func := "loop.example/g01171/laws.FnExactBytesOfFrames", spec := "fnExactBytesOfFrames", apart := false }
def FnExactBytesOfFramesSaid : Prop := fnExactBytesOfFramesRow.holds Try.pinned (OpenSpec.ofChange fnExactBytesOfFramesSpec)

/-- ITS FALSE NEIGHBOUR: 'it returns false'. Refute it at one input. -/
def fnExactBytesOfFramesWrong : ChangeSpec := { name := "fnExactBytesOfFrames", fn := fun _ => fun
  | [d] => { results := [.lit (.bool false)], args := [d] }
  | _ => none }
def FnExactBytesOfFramesWrongFalsely : Prop := fnExactBytesOfFramesRow.holds Try.pinned (OpenSpec.ofChange fnExactBytesOfFramesWrong)

/-- 'laws.FnExactFramesOfBytes': WHATEVER THE INPUT: true; the input reads as it did. -/
def fnExactFramesOfBytesSpec : ChangeSpec := { name := "fnExactFramesOfBytes", fn := fun _ => fun
  | [d] => { results := [.lit (.bool true)], args := [d] }
  | _ => none }
def fnExactFramesOfBytesRow : OpenClaim := { program := "ytligafgbknlofaa", sum := "3ae7c167e3bc8f58d8fee2abbc021713863e33009a1f2824e299bcdaacf8571e", func := "loop.example/g01171/laws.FnExactFramesOfBytes", spec := "fnExactFramesOfBytes", unfollowed := true, recurses := true, apart := false }
def FnExactFramesOfBytesSaid : Prop := fnExactFramesOfBytesRow.holds Try.pinned (OpenSpec.ofChange fnExactFramesOfBytesSpec)

/-- ITS FALSE NEIGHBOUR: 'it returns false'. Refute it at one input. -/
def fnExactFramesOfBytesWrong : ChangeSpec := { name := "fnExactFramesOfBytes", fn := fun _ => fun
  | [d] => { results := [.lit (.bool false)], args := [d] }
  | _ => none }
def FnExactFramesOfBytesWrongFalsely : Prop := fnExactFramesOfBytesRow.holds Try.pinned (OpenSpec.ofChange fnExactFramesOfBytesWrong)

/- THE SECOND FORM. 'bulk': how many values and letters a reading holds, each counted each time it is reached (what is shared counts as often as it is met; a slice's spare places count too). A statement '..UptoSaid' is the law's where the arguments, and the package variables that the reading takes, are together of bulk at most 1048576: NARROWER than '..Said'. Prove '..Said' where nothing that the law and all that it calls make is longer than what came in: it says more and counts as full. Else prove '..UptoSaid'. A law counts once. -/
mutual
def uptoBulk {H : Type} : DataW H → Nat
  | .lit (.string bytes) => bytes.length + 1
  | .lit _ => 1
  | .nil => 1
  | .ptr d => uptoBulk d + 1
  | .slice elems spare => uptoBulkAll elems + uptoBulkAll spare + 1
  | .agg parts => uptoBulkAll parts + 1
  | .iface _ d => uptoBulk d + 1
  | .map entries => uptoBulkEntries entries + 1
  | .held _ => 1
def uptoBulkAll {H : Type} : List (DataW H) → Nat
  | [] => 0
  | d :: r => uptoBulk d + uptoBulkAll r
def uptoBulkEntries {H : Type} : List (Lit × DataW H) → Nat
  | [] => 0
  | x :: r => uptoBulkEntry x + uptoBulkEntries r
def uptoBulkEntry {H : Type} : Lit × DataW H → Nat
  | (.string bytes, d) => bytes.length + uptoBulk d + 1
  | (_, d) => uptoBulk d + 1
 end
def uptoSmall : (H : Type) → List (DataW H) → Bool := fun _ ds => decide (uptoBulkAll ds ≤ 1048576)
def OpenSpec.upto (s : _root_.Go.ChangeSpec) : _root_.Go.OpenSpec := { _root_.Go.OpenSpec.ofChange s with cond := some uptoSmall }

/-- 'laws.FnExactCheckOf', WHERE WHAT IT READS IS OF BULK AT MOST 1048576: true; the input reads as it did. -/
def fnExactCheckOfUptoRow : OpenClaim := { program := "ytligafgbknlofaa", sum := "3ae7c167e3bc8f58d8fee2abbc021713863e33009a1f2824e299bcdaacf8571e", func := "loop.example/g01171/laws.FnExactCheckOf", spec := "fnExactCheckOf", apart := false, narrowed := true }
def FnExactCheckOfUptoSaid : Prop := fnExactCheckOfUptoRow.holds Try.pinned (OpenSpec.upto fnExactCheckOfSpec)

/-- 'laws.FnExactMakeFrame', WHERE WHAT IT READS IS OF BULK AT MOST 1048576: true; the input reads as it did. -/
def fnExactMakeFrameUptoRow : OpenClaim := { program := "ytligafgbknlofaa", sum := "3ae7c167e3bc8f58d8fee2abbc021713863e33009a1f2824e299bcdaacf8571e", func := "loop.example/g01171/laws.FnExactMakeFrame", spec := "fnExactMakeFrame", apart := false, narrowed := true }
def FnExactMakeFrameUptoSaid : Prop := fnExactMakeFrameUptoRow.holds Try.pinned (OpenSpec.upto fnExactMakeFrameSpec)

/-- 'laws.FnExactPayloadOf', WHERE WHAT IT READS IS OF BULK AT MOST 1048576: true; the input reads as it did. -/
def fnExactPayloadOfUptoRow : OpenClaim := { program := "ytligafgbknlofaa", sum := "3ae7c167e3bc8f58d8fee2abbc021713863e33009a1f2824e299bcdaacf8571e", func := "loop.example/g01171/laws.FnExactPayloadOf", spec := "fnExactPayloadOf", apart := false, narrowed := true }
def FnExactPayloadOfUptoSaid : Prop := fnExactPayloadOfUptoRow.holds Try.pinned (OpenSpec.upto fnExactPayloadOfSpec)

/-- 'laws.FnExactIsSound', WHERE WHAT IT READS IS OF BULK AT MOST 1048576: true; the input reads as it did. -/
def fnExactIsSoundUptoRow : OpenClaim := { program := "ytligafgbknlofaa", sum := "3ae7c167e3bc8f58d8fee2abbc021713863e33009a1f2824e299bcdaacf8571e", func := "loop.example/g01171/laws.FnExactIsSound", spec := "fnExactIsSound", apart := false, narrowed := true }
def FnExactIsSoundUptoSaid : Prop := fnExactIsSoundUptoRow.holds Try.pinned (OpenSpec.upto fnExactIsSoundSpec)

/-- 'laws.FnExactPackFrames', WHERE WHAT IT READS IS OF BULK AT MOST 1048576: true; the input reads as it did. -/
def fnExactPackFramesUptoRow : OpenClaim := { program := "ytligafgbknlofaa", sum := "3ae7c167e3bc8f58d8fee2abbc021713863e33009a1f2824e299bcdaacf8571e", func := "loop.example/g01171/laws.FnExactPackFrames", spec := "fnExactPackFrames", unfollowed := true, recurses := true, apart := false, narrowed := true }
def FnExactPackFramesUptoSaid : Prop := fnExactPackFramesUptoRow.holds Try.pinned (OpenSpec.upto fnExactPackFramesSpec)

/-- 'laws.FnExactUnpackFrames', WHERE WHAT IT READS IS OF BULK AT MOST 1048576: true; the input reads as it did. -/
def fnExactUnpackFramesUptoRow : OpenClaim := { program := "ytligafgbknlofaa", sum := "3ae7c167e3bc8f58d8fee2abbc021713863e33009a1f2824e299bcdaacf8571e", func := "loop.example/g01171/laws.FnExactUnpackFrames", spec := "fnExactUnpackFrames", unfollowed := true, recurses := true, apart := false, narrowed := true }
def FnExactUnpackFramesUptoSaid : Prop := fnExactUnpackFramesUptoRow.holds Try.pinned (OpenSpec.upto fnExactUnpackFramesSpec)

/-- 'laws.FnExactSpoilFrame', WHERE WHAT IT READS IS OF BULK AT MOST 1048576: true; the input reads as it did. -/
def fnExactSpoilFrameUptoRow : OpenClaim := { program := "ytligafgbknlofaa", sum := "3ae7c167e3bc8f58d8fee2abbc021713863e33009a1f2824e299bcdaacf8571e", func := "loop.example/g01171/laws.FnExactSpoilFrame", spec := "fnExactSpoilFrame", apart := false, narrowed := true }
def FnExactSpoilFrameUptoSaid : Prop := fnExactSpoilFrameUptoRow.holds Try.pinned (OpenSpec.upto fnExactSpoilFrameSpec)

/-- 'laws.FnExactBytesOfFrames', WHERE WHAT IT READS IS OF BULK AT MOST 1048576: true; the input reads as it did. -/
def fnExactBytesOfFramesUptoRow : OpenClaim := { program := "ytligafgbknlofaa", sum := "3ae7c167e3bc8f58d8fee2abbc021713863e33009a1f2824e299bcdaacf8571e", func := "loop.example/g01171/laws.FnExactBytesOfFrames", spec := "fnExactBytesOfFrames", apart := false, narrowed := true }
def FnExactBytesOfFramesUptoSaid : Prop := fnExactBytesOfFramesUptoRow.holds Try.pinned (OpenSpec.upto fnExactBytesOfFramesSpec)

/-- 'laws.FnExactFramesOfBytes', WHERE WHAT IT READS IS OF BULK AT MOST 1048576: true; the input reads as it did. -/
def fnExactFramesOfBytesUptoRow : OpenClaim := { program := "ytligafgbknlofaa", sum := "3ae7c167e3bc8f58d8fee2abbc021713863e33009a1f2824e299bcdaacf8571e", func := "loop.example/g01171/laws.FnExactFramesOfBytes", spec := "fnExactFramesOfBytes", unfollowed := true, recurses := true, apart := false, narrowed := true }
def FnExactFramesOfBytesUptoSaid : Prop := fnExactFramesOfBytesUptoRow.holds Try.pinned (OpenSpec.upto fnExactFramesOfBytesSpec)

end Rows
end Go.Proofs.Ytligafgbknlofaa
