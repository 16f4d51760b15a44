/-
  No cell of these rows narrows 'for every input' (looked for: loops, veiled, ifaces, maps, wideKeys, modest, calm, conditions, laid).
  DERIVED. THE GIVEN ROWS OF THIS SEAT. 9 by the template 'for every input the law returns true; each argument reads behind the call as it read before'; 0 by the template 'total and deterministic' (their statements: YtkijgadkgfapgaaTotals.lean).
  GIVEN WITH THE SEED: the statements are not yours to turn. If you find one false, say at which input.
  Laid BY PROGRAM, IN A SANDBOX (cutbox-rows.mjs): the forced cells as the released guide's own fill.sh prints them over the translation 2aaa8f17c0b8c8e2… (all of the seat's roots in one cut). By AI agents, Wed Nov 11 2026. No macro, syntax, notation, axiom, sorry.
-/
import Derived.Test.YtkijgadkgfapgaaChecked
import GoSem.Claim
import GoSem.ClaimJoined
import GoSem.ClaimMapViews
import Derived.JoinedTies
import Derived.KernelRfl
namespace Go.Proofs.Ytkijgadkgfapgaa
/- THE CELL 'sum', in the pinned program and in every row, IS THE sha256 OF THE DUMP (.gsa) THAT YtkijgadkgfapgaaProg.lean LOADS. Nothing in Lean hashes anything: it is a label: what it is worth is what the hold of that sum in a sandbox is worth. -/
noncomputable def Try.pinned : Pinned := { name := "ytkijgadkgfapgaa", sum := "2aaa8f17c0b8c8e2c305c016d5482e9555036e1916eaef362c4bc5d03a151035", checked := Try.checked }
namespace Rows
def none {H : Type} : Left H := { results := [], args := [] }

/-- 'laws.FnExactKeyOfMask': WHATEVER THE INPUT: true; the input reads as it did. -/
def fnExactKeyOfMaskSpec : ChangeSpec := { name := "fnExactKeyOfMask", fn := fun _ => fun
  | [d] => { results := [.lit (.bool true)], args := [d] }
  | _ => none }
def fnExactKeyOfMaskRow : OpenClaim := { program := "ytkijgadkgfapgaa", sum := "2aaa8f17c0b8c8e2c305c016d5482e9555036e1916eaef362c4bc5d03a151035", func := "loop.example/g01171/laws.FnExactKeyOfMask", spec := "fnExactKeyOfMask", plainKeys := false, apart := false }
def FnExactKeyOfMaskSaid : Prop := fnExactKeyOfMaskRow.holds Try.pinned (OpenSpec.ofChange fnExactKeyOfMaskSpec)

/-- ITS FALSE NEIGHBOUR: 'it returns false'. Refute it at one input. -/
def fnExactKeyOfMaskWrong : ChangeSpec := { name := "fnExactKeyOfMask", fn := fun _ => fun
  | [d] => { results := [.lit (.bool false)], args := [d] }
  | _ => none }
def FnExactKeyOfMaskWrongFalsely : Prop := fnExactKeyOfMaskRow.holds Try.pinned (OpenSpec.ofChange fnExactKeyOfMaskWrong)

/-- 'laws.FnExactKeyText': WHATEVER THE INPUT: true; the input reads as it did. -/
def fnExactKeyTextSpec : ChangeSpec := { name := "fnExactKeyText", fn := fun _ => fun
  | [d] => { results := [.lit (.bool true)], args := [d] }
  | _ => none }
def fnExactKeyTextRow : OpenClaim := { program := "ytkijgadkgfapgaa", sum := "2aaa8f17c0b8c8e2c305c016d5482e9555036e1916eaef362c4bc5d03a151035", func := "loop.example/g01171/laws.FnExactKeyText", spec := "fnExactKeyText", plainKeys := false, apart := false }
def FnExactKeyTextSaid : Prop := fnExactKeyTextRow.holds Try.pinned (OpenSpec.ofChange fnExactKeyTextSpec)

/-- ITS FALSE NEIGHBOUR: 'it returns false'. Refute it at one input. -/
def fnExactKeyTextWrong : ChangeSpec := { name := "fnExactKeyText", fn := fun _ => fun
  | [d] => { results := [.lit (.bool false)], args := [d] }
  | _ => none }
def FnExactKeyTextWrongFalsely : Prop := fnExactKeyTextRow.holds Try.pinned (OpenSpec.ofChange fnExactKeyTextWrong)

/-- 'laws.FnExactReadKey': WHATEVER THE INPUT: true; the input reads as it did. -/
def fnExactReadKeySpec : ChangeSpec := { name := "fnExactReadKey", fn := fun _ => fun
  | [d] => { results := [.lit (.bool true)], args := [d] }
  | _ => none }
def fnExactReadKeyRow : OpenClaim := { program := "ytkijgadkgfapgaa", sum := "2aaa8f17c0b8c8e2c305c016d5482e9555036e1916eaef362c4bc5d03a151035", func := "loop.example/g01171/laws.FnExactReadKey", spec := "fnExactReadKey", inPlace := ["internal/bytealg.IndexByteString"], plainKeys := false, apart := false }
def FnExactReadKeySaid : Prop := fnExactReadKeyRow.holds Try.pinned (OpenSpec.ofChange fnExactReadKeySpec)

/-- ITS FALSE NEIGHBOUR: 'it returns false'. Refute it at one input. -/
def fnExactReadKeyWrong : ChangeSpec := { name := "fnExactReadKey", fn := fun _ => fun
  | [d] => { results := [.lit (.bool false)], args := [d] }
  | _ => none }
def FnExactReadKeyWrongFalsely : Prop := fnExactReadKeyRow.holds Try.pinned (OpenSpec.ofChange fnExactReadKeyWrong)

/-- 'laws.FnExactValidDeed': WHATEVER THE INPUT: true; the input reads as it did. -/
def fnExactValidDeedSpec : ChangeSpec := { name := "fnExactValidDeed", fn := fun _ => fun
  | [d] => { results := [.lit (.bool true)], args := [d] }
  | _ => none }
def fnExactValidDeedRow : OpenClaim := { program := "ytkijgadkgfapgaa", sum := "2aaa8f17c0b8c8e2c305c016d5482e9555036e1916eaef362c4bc5d03a151035", func := "loop.example/g01171/laws.FnExactValidDeed", spec := "fnExactValidDeed", unfollowed := true, recurses := true, plainKeys := false, apart := false }
def FnExactValidDeedSaid : Prop := fnExactValidDeedRow.holds Try.pinned (OpenSpec.ofChange fnExactValidDeedSpec)

/-- ITS FALSE NEIGHBOUR: 'it returns false'. Refute it at one input. -/
def fnExactValidDeedWrong : ChangeSpec := { name := "fnExactValidDeed", fn := fun _ => fun
  | [d] => { results := [.lit (.bool false)], args := [d] }
  | _ => none }
def FnExactValidDeedWrongFalsely : Prop := fnExactValidDeedRow.holds Try.pinned (OpenSpec.ofChange fnExactValidDeedWrong)

/-- 'laws.FnExactUnpackFrames': WHATEVER THE INPUT: true; the input reads as it did. -/
def fnExactUnpackFramesSpec : ChangeSpec := { name := "fnExactUnpackFrames", fn := fun _ => fun
  | [d] => { results := [.lit (.bool true)], args := [d] }
  | _ => none }
def fnExactUnpackFramesRow : OpenClaim := { program := "ytkijgadkgfapgaa", sum := "2aaa8f17c0b8c8e2c305c016d5482e9555036e1916eaef362c4bc5d03a151035", func := "loop.example/g01171/laws.FnExactUnpackFrames", spec := "fnExactUnpackFrames", unfollowed := true, recurses := true, plainKeys := false, apart := false }
def FnExactUnpackFramesSaid : Prop := fnExactUnpackFramesRow.holds Try.pinned (OpenSpec.ofChange fnExactUnpackFramesSpec)

/-- ITS FALSE NEIGHBOUR: 'it returns false'. Refute it at one input. -/
def fnExactUnpackFramesWrong : ChangeSpec := { name := "fnExactUnpackFrames", fn := fun _ => fun
  | [d] => { results := [.lit (.bool false)], args := [d] }
  | _ => none }
def FnExactUnpackFramesWrongFalsely : Prop := fnExactUnpackFramesRow.holds Try.pinned (OpenSpec.ofChange fnExactUnpackFramesWrong)

/-- 'laws.FnExactSeekPoint': WHATEVER THE INPUT: true; the input reads as it did. -/
def fnExactSeekPointSpec : ChangeSpec := { name := "fnExactSeekPoint", fn := fun _ => fun
  | [d1, d2] => { results := [.lit (.bool true)], args := [d1, d2] }
  | _ => none }
def fnExactSeekPointRow : OpenClaim := { program := "ytkijgadkgfapgaa", sum := "2aaa8f17c0b8c8e2c305c016d5482e9555036e1916eaef362c4bc5d03a151035", func := "loop.example/g01171/laws.FnExactSeekPoint", spec := "fnExactSeekPoint", inPlace := ["math.Float32frombits", "math.Float32bits"], plainKeys := false, apart := false }
def FnExactSeekPointSaid : Prop := fnExactSeekPointRow.holds Try.pinned (OpenSpec.ofChange fnExactSeekPointSpec)

/-- ITS FALSE NEIGHBOUR: 'it returns false'. Refute it at one input. -/
def fnExactSeekPointWrong : ChangeSpec := { name := "fnExactSeekPoint", fn := fun _ => fun
  | [d1, d2] => { results := [.lit (.bool false)], args := [d1, d2] }
  | _ => none }
def FnExactSeekPointWrongFalsely : Prop := fnExactSeekPointRow.holds Try.pinned (OpenSpec.ofChange fnExactSeekPointWrong)

/-- 'laws.FnExactWordFile': WHATEVER THE INPUT: true; the input reads as it did. -/
def fnExactWordFileSpec : ChangeSpec := { name := "fnExactWordFile", fn := fun _ => fun
  | [d] => { results := [.lit (.bool true)], args := [d] }
  | _ => none }
def fnExactWordFileRow : OpenClaim := { program := "ytkijgadkgfapgaa", sum := "2aaa8f17c0b8c8e2c305c016d5482e9555036e1916eaef362c4bc5d03a151035", func := "loop.example/g01171/laws.FnExactWordFile", spec := "fnExactWordFile", inPlace := ["internal/bytealg.IndexByteString"], unfollowed := true, recurses := true, plainKeys := false, apart := false }
def FnExactWordFileSaid : Prop := fnExactWordFileRow.holds Try.pinned (OpenSpec.ofChange fnExactWordFileSpec)

/-- ITS FALSE NEIGHBOUR: 'it returns false'. Refute it at one input. -/
def fnExactWordFileWrong : ChangeSpec := { name := "fnExactWordFile", fn := fun _ => fun
  | [d] => { results := [.lit (.bool false)], args := [d] }
  | _ => none }
def FnExactWordFileWrongFalsely : Prop := fnExactWordFileRow.holds Try.pinned (OpenSpec.ofChange fnExactWordFileWrong)

/-- 'laws.FnExactReadWordFile': WHATEVER THE INPUT: true; the input reads as it did. -/
def fnExactReadWordFileSpec : ChangeSpec := { name := "fnExactReadWordFile", fn := fun _ => fun
  | [d] => { results := [.lit (.bool true)], args := [d] }
  | _ => none }
def fnExactReadWordFileRow : OpenClaim := { program := "ytkijgadkgfapgaa", sum := "2aaa8f17c0b8c8e2c305c016d5482e9555036e1916eaef362c4bc5d03a151035", func := "loop.example/g01171/laws.FnExactReadWordFile", spec := "fnExactReadWordFile", inPlace := ["internal/abi.NoEscape"], unfollowed := true, recurses := true, plainKeys := false, apart := false }
def FnExactReadWordFileSaid : Prop := fnExactReadWordFileRow.holds Try.pinned (OpenSpec.ofChange fnExactReadWordFileSpec)

/-- ITS FALSE NEIGHBOUR: 'it returns false'. Refute it at one input. -/
def fnExactReadWordFileWrong : ChangeSpec := { name := "fnExactReadWordFile", fn := fun _ => fun
  | [d] => { results := [.lit (.bool false)], args := [d] }
  | _ => none }
def FnExactReadWordFileWrongFalsely : Prop := fnExactReadWordFileRow.holds Try.pinned (OpenSpec.ofChange fnExactReadWordFileWrong)

/-- 'laws.FnExactReadPointFile': WHATEVER THE INPUT: true; the input reads as it did. -/
def fnExactReadPointFileSpec : ChangeSpec := { name := "fnExactReadPointFile", fn := fun _ => fun
  | [d] => { results := [.lit (.bool true)], args := [d] }
  | _ => none }
def fnExactReadPointFileRow : OpenClaim := { program := "ytkijgadkgfapgaa", sum := "2aaa8f17c0b8c8e2c305c016d5482e9555036e1916eaef362c4bc5d03a151035", func := "loop.example/g01171/laws.FnExactReadPointFile", spec := "fnExactReadPointFile", inPlace := ["math.Float32frombits", "math.Float32bits"], unfollowed := true, recurses := true, plainKeys := false, apart := false }
def FnExactReadPointFileSaid : Prop := fnExactReadPointFileRow.holds Try.pinned (OpenSpec.ofChange fnExactReadPointFileSpec)

/-- ITS FALSE NEIGHBOUR: 'it returns false'. Refute it at one input. -/
def fnExactReadPointFileWrong : ChangeSpec := { name := "fnExactReadPointFile", fn := fun _ => fun
  | [d] => { results := [.lit (.bool false)], args := [d] }
  | _ => none }
def FnExactReadPointFileWrongFalsely : Prop := fnExactReadPointFileRow.holds Try.pinned (OpenSpec.ofChange fnExactReadPointFileWrong)

/- THE SECOND FORM. 'bulk': how many values and letters a reading holds, each counted each time it is reached (what is shared counts as often as it is met; a slice's spare places count too). A statement '..UptoSaid' is the law's where the arguments, and the package variables that the reading takes, are together of bulk at most 1048576: NARROWER than '..Said'. Prove '..Said' where nothing that the law and all that it calls make is longer than what came in: it says more and counts as full. Else prove '..UptoSaid'. A law counts once. -/
mutual
def uptoBulk {H : Type} : DataW H → Nat
  | .lit (.string bytes) => bytes.length + 1
  | .lit _ => 1
  | .nil => 1
  | .ptr d => uptoBulk d + 1
  | .slice elems spare => uptoBulkAll elems + uptoBulkAll spare + 1
  | .agg parts => uptoBulkAll parts + 1
  | .iface _ d => uptoBulk d + 1
  | .map entries => uptoBulkEntries entries + 1
  | .held _ => 1
def uptoBulkAll {H : Type} : List (DataW H) → Nat
  | [] => 0
  | d :: r => uptoBulk d + uptoBulkAll r
def uptoBulkEntries {H : Type} : List (Lit × DataW H) → Nat
  | [] => 0
  | x :: r => uptoBulkEntry x + uptoBulkEntries r
def uptoBulkEntry {H : Type} : Lit × DataW H → Nat
  | (.string bytes, d) => bytes.length + uptoBulk d + 1
  | (_, d) => uptoBulk d + 1
 end
def uptoSmall : (H : Type) → List (DataW H) → Bool := fun _ ds => decide (uptoBulkAll ds ≤ 1048576)
def OpenSpec.upto (s : _root_.Go.ChangeSpec) : _root_.Go.OpenSpec := { _root_.Go.OpenSpec.ofChange s with cond := some uptoSmall }

/-- 'laws.FnExactKeyOfMask', WHERE WHAT IT READS IS OF BULK AT MOST 1048576: true; the input reads as it did. -/
def fnExactKeyOfMaskUptoRow : OpenClaim := { program := "ytkijgadkgfapgaa", sum := "2aaa8f17c0b8c8e2c305c016d5482e9555036e1916eaef362c4bc5d03a151035", func := "loop.example/g01171/laws.FnExactKeyOfMask", spec := "fnExactKeyOfMask", plainKeys := false, apart := false, narrowed := true }
def FnExactKeyOfMaskUptoSaid : Prop := fnExactKeyOfMaskUptoRow.holds Try.pinned (OpenSpec.upto fnExactKeyOfMaskSpec)

/-- 'laws.FnExactKeyText', WHERE WHAT IT READS IS OF BULK AT MOST 1048576: true; the input reads as it did. -/
def fnExactKeyTextUptoRow : OpenClaim := { program := "ytkijgadkgfapgaa", sum := "2aaa8f17c0b8c8e2c305c016d5482e9555036e1916eaef362c4bc5d03a151035", func := "loop.example/g01171/laws.FnExactKeyText", spec := "fnExactKeyText", plainKeys := false, apart := false, narrowed := true }
def FnExactKeyTextUptoSaid : Prop := fnExactKeyTextUptoRow.holds Try.pinned (OpenSpec.upto fnExactKeyTextSpec)

/-- 'laws.FnExactReadKey', WHERE WHAT IT READS IS OF BULK AT MOST 1048576: true; the input reads as it did. -/
def fnExactReadKeyUptoRow : OpenClaim := { program := "ytkijgadkgfapgaa", sum := "2aaa8f17c0b8c8e2c305c016d5482e9555036e1916eaef362c4bc5d03a151035", func := "loop.example/g01171/laws.FnExactReadKey", spec := "fnExactReadKey", inPlace := ["internal/bytealg.IndexByteString"], plainKeys := false, apart := false, narrowed := true }
def FnExactReadKeyUptoSaid : Prop := fnExactReadKeyUptoRow.holds Try.pinned (OpenSpec.upto fnExactReadKeySpec)

/-- 'laws.FnExactValidDeed', WHERE WHAT IT READS IS OF BULK AT MOST 1048576: true; the input reads as it did. -/
def fnExactValidDeedUptoRow : OpenClaim := { program := "ytkijgadkgfapgaa", sum := "2aaa8f17c0b8c8e2c305c016d5482e9555036e1916eaef362c4bc5d03a151035", func := "loop.example/g01171/laws.FnExactValidDeed", spec := "fnExactValidDeed", unfollowed := true, recurses := true, plainKeys := false, apart := false, narrowed := true }
def FnExactValidDeedUptoSaid : Prop := fnExactValidDeedUptoRow.holds Try.pinned (OpenSpec.upto fnExactValidDeedSpec)

/-- 'laws.FnExactUnpackFrames', WHERE WHAT IT READS IS OF BULK AT MOST 1048576: true; the input reads as it did. -/
def fnExactUnpackFramesUptoRow : OpenClaim := { program := "ytkijgadkgfapgaa", sum := "2aaa8f17c0b8c8e2c305c016d5482e9555036e1916eaef362c4bc5d03a151035", func := "loop.example/g01171/laws.FnExactUnpackFrames", spec := "fnExactUnpackFrames", unfollowed := true, recurses := true, plainKeys := false, apart := false, narrowed := true }
def FnExactUnpackFramesUptoSaid : Prop := fnExactUnpackFramesUptoRow.holds Try.pinned (OpenSpec.upto fnExactUnpackFramesSpec)

/-- 'laws.FnExactSeekPoint', WHERE WHAT IT READS IS OF BULK AT MOST 1048576: true; the input reads as it did. -/
def fnExactSeekPointUptoRow : OpenClaim := { program := "ytkijgadkgfapgaa", sum := "2aaa8f17c0b8c8e2c305c016d5482e9555036e1916eaef362c4bc5d03a151035", func := "loop.example/g01171/laws.FnExactSeekPoint", spec := "fnExactSeekPoint", inPlace := ["math.Float32frombits", "math.Float32bits"], plainKeys := false, apart := false, narrowed := true }
def FnExactSeekPointUptoSaid : Prop := fnExactSeekPointUptoRow.holds Try.pinned (OpenSpec.upto fnExactSeekPointSpec)

/-- 'laws.FnExactWordFile', WHERE WHAT IT READS IS OF BULK AT MOST 1048576: true; the input reads as it did. -/
def fnExactWordFileUptoRow : OpenClaim := { program := "ytkijgadkgfapgaa", sum := "2aaa8f17c0b8c8e2c305c016d5482e9555036e1916eaef362c4bc5d03a151035", func := "loop.example/g01171/laws.FnExactWordFile", spec := "fnExactWordFile", inPlace := ["internal/bytealg.IndexByteString"], unfollowed := true, recurses := true, plainKeys := false, apart := false, narrowed := true }
def FnExactWordFileUptoSaid : Prop := fnExactWordFileUptoRow.holds Try.pinned (OpenSpec.upto fnExactWordFileSpec)

/-- 'laws.FnExactReadWordFile', WHERE WHAT IT READS IS OF BULK AT MOST 1048576: true; the input reads as it did. -/
def fnExactReadWordFileUptoRow : OpenClaim := { program := "ytkijgadkgfapgaa", sum := "2aaa8f17c0b8c8e2c305c016d5482e9555036e1916eaef362c4bc5d03a151035", func := "loop.example/g01171/laws.FnExactReadWordFile", spec := "fnExactReadWordFile", inPlace := ["internal/abi.NoEscape"], unfollowed := true, recurses := true, plainKeys := false, apart := false, narrowed := true }
def FnExactReadWordFileUptoSaid : Prop := fnExactReadWordFileUptoRow.holds Try.pinned (OpenSpec.upto fnExactReadWordFileSpec)

/-- 'laws.FnExactReadPointFile', WHERE WHAT IT READS IS OF BULK AT MOST 1048576: true; the input reads as it did. -/
def fnExactReadPointFileUptoRow : OpenClaim := { program := "ytkijgadkgfapgaa", sum := "2aaa8f17c0b8c8e2c305c016d5482e9555036e1916eaef362c4bc5d03a151035", func := "loop.example/g01171/laws.FnExactReadPointFile", spec := "fnExactReadPointFile", inPlace := ["math.Float32frombits", "math.Float32bits"], unfollowed := true, recurses := true, plainKeys := false, apart := false, narrowed := true }
def FnExactReadPointFileUptoSaid : Prop := fnExactReadPointFileUptoRow.holds Try.pinned (OpenSpec.upto fnExactReadPointFileSpec)

end Rows
end Go.Proofs.Ytkijgadkgfapgaa
