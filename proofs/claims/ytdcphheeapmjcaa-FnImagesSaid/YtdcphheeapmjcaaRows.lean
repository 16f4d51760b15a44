/-
  No cell of these rows narrows 'for every input' (looked for: loops, veiled, ifaces, maps, wideKeys, modest, calm, conditions, laid).
  DERIVED. THE GIVEN ROWS OF THIS SEAT. 11 by the template 'for every input the law returns true; each argument reads behind the call as it read before'; 0 by the template 'total and deterministic' (their statements: YtdcphheeapmjcaaTotals.lean).
  GIVEN WITH THE SEED: the statements are not yours to turn. If you find one false, say at which input.
  Laid BY PROGRAM, IN A SANDBOX (cutbox-rows.mjs): the forced cells as the released guide's own fill.sh prints them over the translation eef35b25fa3f2f2a… (all of the seat's roots in one cut). By AI agents, Wed Nov 11 2026. No macro, syntax, notation, axiom, sorry.
-/
import Derived.Test.YtdcphheeapmjcaaChecked
import GoSem.Claim
import GoSem.ClaimJoined
import GoSem.ClaimMapViews
import Derived.JoinedTies
import Derived.KernelRfl
namespace Go.Proofs.Ytdcphheeapmjcaa
/- THE CELL 'sum', in the pinned program and in every row, IS THE sha256 OF THE DUMP (.gsa) THAT YtdcphheeapmjcaaProg.lean LOADS. Nothing in Lean hashes anything: it is a label: what it is worth is what the hold of that sum in a sandbox is worth. -/
noncomputable def Try.pinned : Pinned := { name := "ytdcphheeapmjcaa", sum := "eef35b25fa3f2f2a6aeec164ab09c4433674eb0203a34ad5a4fc3dac00a704c7", checked := Try.checked }
namespace Rows
def none {H : Type} : Left H := { results := [], args := [] }

/-- 'laws.FnExactReducedAt': WHATEVER THE INPUT: true; the input reads as it did. -/
def fnExactReducedAtSpec : ChangeSpec := { name := "fnExactReducedAt", fn := fun _ => fun
  | [d1, d2, d3] => { results := [.lit (.bool true)], args := [d1, d2, d3] }
  | _ => none }
def fnExactReducedAtRow : OpenClaim := { program := "ytdcphheeapmjcaa", sum := "eef35b25fa3f2f2a6aeec164ab09c4433674eb0203a34ad5a4fc3dac00a704c7", func := "loop.example/g01171/laws.FnExactReducedAt", spec := "fnExactReducedAt", inPlace := ["internal/abi.NoEscape"], unfollowed := true, recurses := true, apart := false }
def FnExactReducedAtSaid : Prop := fnExactReducedAtRow.holds Try.pinned (OpenSpec.ofChange fnExactReducedAtSpec)

/-- ITS FALSE NEIGHBOUR: 'it returns false'. Refute it at one input. -/
def fnExactReducedAtWrong : ChangeSpec := { name := "fnExactReducedAt", fn := fun _ => fun
  | [d1, d2, d3] => { results := [.lit (.bool false)], args := [d1, d2, d3] }
  | _ => none }
def FnExactReducedAtWrongFalsely : Prop := fnExactReducedAtRow.holds Try.pinned (OpenSpec.ofChange fnExactReducedAtWrong)

/-- 'laws.FnExactLeastRotation': WHATEVER THE INPUT: true; the input reads as it did. -/
def fnExactLeastRotationSpec : ChangeSpec := { name := "fnExactLeastRotation", fn := fun _ => fun
  | [d] => { results := [.lit (.bool true)], args := [d] }
  | _ => none }
def fnExactLeastRotationRow : OpenClaim := { program := "ytdcphheeapmjcaa", sum := "eef35b25fa3f2f2a6aeec164ab09c4433674eb0203a34ad5a4fc3dac00a704c7", func := "loop.example/g01171/laws.FnExactLeastRotation", spec := "fnExactLeastRotation", inPlace := ["internal/bytealg.IndexByteString", "internal/abi.NoEscape"], unfollowed := true, recurses := true, apart := false }
def FnExactLeastRotationSaid : Prop := fnExactLeastRotationRow.holds Try.pinned (OpenSpec.ofChange fnExactLeastRotationSpec)

/-- ITS FALSE NEIGHBOUR: 'it returns false'. Refute it at one input. -/
def fnExactLeastRotationWrong : ChangeSpec := { name := "fnExactLeastRotation", fn := fun _ => fun
  | [d] => { results := [.lit (.bool false)], args := [d] }
  | _ => none }
def FnExactLeastRotationWrongFalsely : Prop := fnExactLeastRotationRow.holds Try.pinned (OpenSpec.ofChange fnExactLeastRotationWrong)

/-- 'laws.FnExactAreConjugate': WHATEVER THE INPUT: true; the input reads as it did. -/
def fnExactAreConjugateSpec : ChangeSpec := { name := "fnExactAreConjugate", fn := fun _ => fun
  | [d1, d2] => { results := [.lit (.bool true)], args := [d1, d2] }
  | _ => none }
def fnExactAreConjugateRow : OpenClaim := { program := "ytdcphheeapmjcaa", sum := "eef35b25fa3f2f2a6aeec164ab09c4433674eb0203a34ad5a4fc3dac00a704c7", func := "loop.example/g01171/laws.FnExactAreConjugate", spec := "fnExactAreConjugate", inPlace := ["internal/bytealg.IndexByteString", "internal/abi.NoEscape"], unfollowed := true, recurses := true, apart := false }
def FnExactAreConjugateSaid : Prop := fnExactAreConjugateRow.holds Try.pinned (OpenSpec.ofChange fnExactAreConjugateSpec)

/-- ITS FALSE NEIGHBOUR: 'it returns false'. Refute it at one input. -/
def fnExactAreConjugateWrong : ChangeSpec := { name := "fnExactAreConjugate", fn := fun _ => fun
  | [d1, d2] => { results := [.lit (.bool false)], args := [d1, d2] }
  | _ => none }
def FnExactAreConjugateWrongFalsely : Prop := fnExactAreConjugateRow.holds Try.pinned (OpenSpec.ofChange fnExactAreConjugateWrong)

/-- 'laws.FnExactCodeOfWord': WHATEVER THE INPUT: true; the input reads as it did. -/
def fnExactCodeOfWordSpec : ChangeSpec := { name := "fnExactCodeOfWord", fn := fun _ => fun
  | [d] => { results := [.lit (.bool true)], args := [d] }
  | _ => none }
def fnExactCodeOfWordRow : OpenClaim := { program := "ytdcphheeapmjcaa", sum := "eef35b25fa3f2f2a6aeec164ab09c4433674eb0203a34ad5a4fc3dac00a704c7", func := "loop.example/g01171/laws.FnExactCodeOfWord", spec := "fnExactCodeOfWord", inPlace := ["internal/bytealg.IndexByteString"], apart := false }
def FnExactCodeOfWordSaid : Prop := fnExactCodeOfWordRow.holds Try.pinned (OpenSpec.ofChange fnExactCodeOfWordSpec)

/-- ITS FALSE NEIGHBOUR: 'it returns false'. Refute it at one input. -/
def fnExactCodeOfWordWrong : ChangeSpec := { name := "fnExactCodeOfWord", fn := fun _ => fun
  | [d] => { results := [.lit (.bool false)], args := [d] }
  | _ => none }
def FnExactCodeOfWordWrongFalsely : Prop := fnExactCodeOfWordRow.holds Try.pinned (OpenSpec.ofChange fnExactCodeOfWordWrong)

/-- 'laws.FnExactWordOfCode': WHATEVER THE INPUT: true; the input reads as it did. -/
def fnExactWordOfCodeSpec : ChangeSpec := { name := "fnExactWordOfCode", fn := fun _ => fun
  | [d] => { results := [.lit (.bool true)], args := [d] }
  | _ => none }
def fnExactWordOfCodeRow : OpenClaim := { program := "ytdcphheeapmjcaa", sum := "eef35b25fa3f2f2a6aeec164ab09c4433674eb0203a34ad5a4fc3dac00a704c7", func := "loop.example/g01171/laws.FnExactWordOfCode", spec := "fnExactWordOfCode", inPlace := ["internal/abi.NoEscape"], apart := false }
def FnExactWordOfCodeSaid : Prop := fnExactWordOfCodeRow.holds Try.pinned (OpenSpec.ofChange fnExactWordOfCodeSpec)

/-- ITS FALSE NEIGHBOUR: 'it returns false'. Refute it at one input. -/
def fnExactWordOfCodeWrong : ChangeSpec := { name := "fnExactWordOfCode", fn := fun _ => fun
  | [d] => { results := [.lit (.bool false)], args := [d] }
  | _ => none }
def FnExactWordOfCodeWrongFalsely : Prop := fnExactWordOfCodeRow.holds Try.pinned (OpenSpec.ofChange fnExactWordOfCodeWrong)

/-- 'laws.FnExactValidImages': WHATEVER THE INPUT: true; the input reads as it did. -/
def fnExactValidImagesSpec : ChangeSpec := { name := "fnExactValidImages", fn := fun _ => fun
  | [d] => { results := [.lit (.bool true)], args := [d] }
  | _ => none }
def fnExactValidImagesRow : OpenClaim := { program := "ytdcphheeapmjcaa", sum := "eef35b25fa3f2f2a6aeec164ab09c4433674eb0203a34ad5a4fc3dac00a704c7", func := "loop.example/g01171/laws.FnExactValidImages", spec := "fnExactValidImages", inPlace := ["internal/bytealg.IndexByteString"], unfollowed := true, recurses := true, apart := false }
def FnExactValidImagesSaid : Prop := fnExactValidImagesRow.holds Try.pinned (OpenSpec.ofChange fnExactValidImagesSpec)

/-- ITS FALSE NEIGHBOUR: 'it returns false'. Refute it at one input. -/
def fnExactValidImagesWrong : ChangeSpec := { name := "fnExactValidImages", fn := fun _ => fun
  | [d] => { results := [.lit (.bool false)], args := [d] }
  | _ => none }
def FnExactValidImagesWrongFalsely : Prop := fnExactValidImagesRow.holds Try.pinned (OpenSpec.ofChange fnExactValidImagesWrong)

/-- 'laws.FnExactApplyImages': WHATEVER THE INPUT: true; the input reads as it did. -/
def fnExactApplyImagesSpec : ChangeSpec := { name := "fnExactApplyImages", fn := fun _ => fun
  | [d1, d2] => { results := [.lit (.bool true)], args := [d1, d2] }
  | _ => none }
def fnExactApplyImagesRow : OpenClaim := { program := "ytdcphheeapmjcaa", sum := "eef35b25fa3f2f2a6aeec164ab09c4433674eb0203a34ad5a4fc3dac00a704c7", func := "loop.example/g01171/laws.FnExactApplyImages", spec := "fnExactApplyImages", inPlace := ["internal/bytealg.IndexByteString", "internal/abi.NoEscape"], unfollowed := true, recurses := true, apart := false }
def FnExactApplyImagesSaid : Prop := fnExactApplyImagesRow.holds Try.pinned (OpenSpec.ofChange fnExactApplyImagesSpec)

/-- ITS FALSE NEIGHBOUR: 'it returns false'. Refute it at one input. -/
def fnExactApplyImagesWrong : ChangeSpec := { name := "fnExactApplyImages", fn := fun _ => fun
  | [d1, d2] => { results := [.lit (.bool false)], args := [d1, d2] }
  | _ => none }
def FnExactApplyImagesWrongFalsely : Prop := fnExactApplyImagesRow.holds Try.pinned (OpenSpec.ofChange fnExactApplyImagesWrong)

/-- 'laws.FnExactComposeImages': WHATEVER THE INPUT: true; the input reads as it did. -/
def fnExactComposeImagesSpec : ChangeSpec := { name := "fnExactComposeImages", fn := fun _ => fun
  | [d1, d2] => { results := [.lit (.bool true)], args := [d1, d2] }
  | _ => none }
def fnExactComposeImagesRow : OpenClaim := { program := "ytdcphheeapmjcaa", sum := "eef35b25fa3f2f2a6aeec164ab09c4433674eb0203a34ad5a4fc3dac00a704c7", func := "loop.example/g01171/laws.FnExactComposeImages", spec := "fnExactComposeImages", inPlace := ["internal/bytealg.IndexByteString", "internal/abi.NoEscape"], unfollowed := true, recurses := true, apart := false }
def FnExactComposeImagesSaid : Prop := fnExactComposeImagesRow.holds Try.pinned (OpenSpec.ofChange fnExactComposeImagesSpec)

/-- ITS FALSE NEIGHBOUR: 'it returns false'. Refute it at one input. -/
def fnExactComposeImagesWrong : ChangeSpec := { name := "fnExactComposeImages", fn := fun _ => fun
  | [d1, d2] => { results := [.lit (.bool false)], args := [d1, d2] }
  | _ => none }
def FnExactComposeImagesWrongFalsely : Prop := fnExactComposeImagesRow.holds Try.pinned (OpenSpec.ofChange fnExactComposeImagesWrong)

/-- 'laws.FnWords': WHATEVER THE INPUT: true; the input reads as it did. -/
def fnWordsSpec : ChangeSpec := { name := "fnWords", fn := fun _ => fun
  | [d1, d2] => { results := [.lit (.bool true)], args := [d1, d2] }
  | _ => none }
def fnWordsRow : OpenClaim := { program := "ytdcphheeapmjcaa", sum := "eef35b25fa3f2f2a6aeec164ab09c4433674eb0203a34ad5a4fc3dac00a704c7", func := "loop.example/g01171/laws.FnWords", spec := "fnWords", inPlace := ["internal/bytealg.IndexByteString", "internal/abi.NoEscape"], unfollowed := true, recurses := true, apart := false }
def FnWordsSaid : Prop := fnWordsRow.holds Try.pinned (OpenSpec.ofChange fnWordsSpec)

/-- ITS FALSE NEIGHBOUR: 'it returns false'. Refute it at one input. -/
def fnWordsWrong : ChangeSpec := { name := "fnWords", fn := fun _ => fun
  | [d1, d2] => { results := [.lit (.bool false)], args := [d1, d2] }
  | _ => none }
def FnWordsWrongFalsely : Prop := fnWordsRow.holds Try.pinned (OpenSpec.ofChange fnWordsWrong)

/-- 'laws.FnCountedWords': WHATEVER THE INPUT: true; the input reads as it did. -/
def fnCountedWordsSpec : ChangeSpec := { name := "fnCountedWords", fn := fun _ => fun
  | [d1, d2] => { results := [.lit (.bool true)], args := [d1, d2] }
  | _ => none }
def fnCountedWordsRow : OpenClaim := { program := "ytdcphheeapmjcaa", sum := "eef35b25fa3f2f2a6aeec164ab09c4433674eb0203a34ad5a4fc3dac00a704c7", func := "loop.example/g01171/laws.FnCountedWords", spec := "fnCountedWords", inPlace := ["internal/abi.NoEscape", "internal/bytealg.IndexByteString"], unfollowed := true, recurses := true, apart := false }
def FnCountedWordsSaid : Prop := fnCountedWordsRow.holds Try.pinned (OpenSpec.ofChange fnCountedWordsSpec)

/-- ITS FALSE NEIGHBOUR: 'it returns false'. Refute it at one input. -/
def fnCountedWordsWrong : ChangeSpec := { name := "fnCountedWords", fn := fun _ => fun
  | [d1, d2] => { results := [.lit (.bool false)], args := [d1, d2] }
  | _ => none }
def FnCountedWordsWrongFalsely : Prop := fnCountedWordsRow.holds Try.pinned (OpenSpec.ofChange fnCountedWordsWrong)

/-- 'laws.FnImages': WHATEVER THE INPUT: true; the input reads as it did. -/
def fnImagesSpec : ChangeSpec := { name := "fnImages", fn := fun _ => fun
  | [d1, d2] => { results := [.lit (.bool true)], args := [d1, d2] }
  | _ => none }
def fnImagesRow : OpenClaim := { program := "ytdcphheeapmjcaa", sum := "eef35b25fa3f2f2a6aeec164ab09c4433674eb0203a34ad5a4fc3dac00a704c7", func := "loop.example/g01171/laws.FnImages", spec := "fnImages", inPlace := ["internal/bytealg.IndexByteString", "internal/abi.NoEscape"], unfollowed := true, recurses := true, apart := false }
def FnImagesSaid : Prop := fnImagesRow.holds Try.pinned (OpenSpec.ofChange fnImagesSpec)

/-- ITS FALSE NEIGHBOUR: 'it returns false'. Refute it at one input. -/
def fnImagesWrong : ChangeSpec := { name := "fnImages", fn := fun _ => fun
  | [d1, d2] => { results := [.lit (.bool false)], args := [d1, d2] }
  | _ => none }
def FnImagesWrongFalsely : Prop := fnImagesRow.holds Try.pinned (OpenSpec.ofChange fnImagesWrong)

/- THE SECOND FORM. 'bulk': how many values and letters a reading holds, each counted each time it is reached (what is shared counts as often as it is met; a slice's spare places count too). A statement '..UptoSaid' is the law's where the arguments, and the package variables that the reading takes, are together of bulk at most 1048576: NARROWER than '..Said'. Prove '..Said' where nothing that the law and all that it calls make is longer than what came in: it says more and counts as full. Else prove '..UptoSaid'. A law counts once. -/
mutual
def uptoBulk {H : Type} : DataW H → Nat
  | .lit (.string bytes) => bytes.length + 1
  | .lit _ => 1
  | .nil => 1
  | .ptr d => uptoBulk d + 1
  | .slice elems spare => uptoBulkAll elems + uptoBulkAll spare + 1
  | .agg parts => uptoBulkAll parts + 1
  | .iface _ d => uptoBulk d + 1
  | .map entries => uptoBulkEntries entries + 1
  | .held _ => 1
def uptoBulkAll {H : Type} : List (DataW H) → Nat
  | [] => 0
  | d :: r => uptoBulk d + uptoBulkAll r
def uptoBulkEntries {H : Type} : List (Lit × DataW H) → Nat
  | [] => 0
  | x :: r => uptoBulkEntry x + uptoBulkEntries r
def uptoBulkEntry {H : Type} : Lit × DataW H → Nat
  | (.string bytes, d) => bytes.length + uptoBulk d + 1
  | (_, d) => uptoBulk d + 1
 end
def uptoSmall : (H : Type) → List (DataW H) → Bool := fun _ ds => decide (uptoBulkAll ds ≤ 1048576)
def OpenSpec.upto (s : _root_.Go.ChangeSpec) : _root_.Go.OpenSpec := { _root_.Go.OpenSpec.ofChange s with cond := some uptoSmall }

/-- 'laws.FnExactReducedAt', WHERE WHAT IT READS IS OF BULK AT MOST 1048576: true; the input reads as it did. -/
def fnExactReducedAtUptoRow : OpenClaim := { program := "ytdcphheeapmjcaa", sum := "eef35b25fa3f2f2a6aeec164ab09c4433674eb0203a34ad5a4fc3dac00a704c7", func := "loop.example/g01171/laws.FnExactReducedAt", spec := "fnExactReducedAt", inPlace := ["internal/abi.NoEscape"], unfollowed := true, recurses := true, apart := false, narrowed := true }
def FnExactReducedAtUptoSaid : Prop := fnExactReducedAtUptoRow.holds Try.pinned (OpenSpec.upto fnExactReducedAtSpec)

/-- 'laws.FnExactLeastRotation', WHERE WHAT IT READS IS OF BULK AT MOST 1048576: true; the input reads as it did. -/
def fnExactLeastRotationUptoRow : OpenClaim := { program := "ytdcphheeapmjcaa", sum := "eef35b25fa3f2f2a6aeec164ab09c4433674eb0203a34ad5a4fc3dac00a704c7", func := "loop.example/g01171/laws.FnExactLeastRotation", spec := "fnExactLeastRotation", inPlace := ["internal/bytealg.IndexByteString", "internal/abi.NoEscape"], unfollowed := true, recurses := true, apart := false, narrowed := true }
def FnExactLeastRotationUptoSaid : Prop := fnExactLeastRotationUptoRow.holds Try.pinned (OpenSpec.upto fnExactLeastRotationSpec)

/-- 'laws.FnExactAreConjugate', WHERE WHAT IT READS IS OF BULK AT MOST 1048576: true; the input reads as it did. -/
def fnExactAreConjugateUptoRow : OpenClaim := { program := "ytdcphheeapmjcaa", sum := "eef35b25fa3f2f2a6aeec164ab09c4433674eb0203a34ad5a4fc3dac00a704c7", func := "loop.example/g01171/laws.FnExactAreConjugate", spec := "fnExactAreConjugate", inPlace := ["internal/bytealg.IndexByteString", "internal/abi.NoEscape"], unfollowed := true, recurses := true, apart := false, narrowed := true }
def FnExactAreConjugateUptoSaid : Prop := fnExactAreConjugateUptoRow.holds Try.pinned (OpenSpec.upto fnExactAreConjugateSpec)

/-- 'laws.FnExactCodeOfWord', WHERE WHAT IT READS IS OF BULK AT MOST 1048576: true; the input reads as it did. -/
def fnExactCodeOfWordUptoRow : OpenClaim := { program := "ytdcphheeapmjcaa", sum := "eef35b25fa3f2f2a6aeec164ab09c4433674eb0203a34ad5a4fc3dac00a704c7", func := "loop.example/g01171/laws.FnExactCodeOfWord", spec := "fnExactCodeOfWord", inPlace := ["internal/bytealg.IndexByteString"], apart := false, narrowed := true }
def FnExactCodeOfWordUptoSaid : Prop := fnExactCodeOfWordUptoRow.holds Try.pinned (OpenSpec.upto fnExactCodeOfWordSpec)

/-- 'laws.FnExactWordOfCode', WHERE WHAT IT READS IS OF BULK AT MOST 1048576: true; the input reads as it did. -/
def fnExactWordOfCodeUptoRow : OpenClaim := { program := "ytdcphheeapmjcaa", sum := "eef35b25fa3f2f2a6aeec164ab09c4433674eb0203a34ad5a4fc3dac00a704c7", func := "loop.example/g01171/laws.FnExactWordOfCode", spec := "fnExactWordOfCode", inPlace := ["internal/abi.NoEscape"], apart := false, narrowed := true }
def FnExactWordOfCodeUptoSaid : Prop := fnExactWordOfCodeUptoRow.holds Try.pinned (OpenSpec.upto fnExactWordOfCodeSpec)

/-- 'laws.FnExactValidImages', WHERE WHAT IT READS IS OF BULK AT MOST 1048576: true; the input reads as it did. -/
def fnExactValidImagesUptoRow : OpenClaim := { program := "ytdcphheeapmjcaa", sum := "eef35b25fa3f2f2a6aeec164ab09c4433674eb0203a34ad5a4fc3dac00a704c7", func := "loop.example/g01171/laws.FnExactValidImages", spec := "fnExactValidImages", inPlace := ["internal/bytealg.IndexByteString"], unfollowed := true, recurses := true, apart := false, narrowed := true }
def FnExactValidImagesUptoSaid : Prop := fnExactValidImagesUptoRow.holds Try.pinned (OpenSpec.upto fnExactValidImagesSpec)

/-- 'laws.FnExactApplyImages', WHERE WHAT IT READS IS OF BULK AT MOST 1048576: true; the input reads as it did. -/
def fnExactApplyImagesUptoRow : OpenClaim := { program := "ytdcphheeapmjcaa", sum := "eef35b25fa3f2f2a6aeec164ab09c4433674eb0203a34ad5a4fc3dac00a704c7", func := "loop.example/g01171/laws.FnExactApplyImages", spec := "fnExactApplyImages", inPlace := ["internal/bytealg.IndexByteString", "internal/abi.NoEscape"], unfollowed := true, recurses := true, apart := false, narrowed := true }
def FnExactApplyImagesUptoSaid : Prop := fnExactApplyImagesUptoRow.holds Try.pinned (OpenSpec.upto fnExactApplyImagesSpec)

/-- 'laws.FnExactComposeImages', WHERE WHAT IT READS IS OF BULK AT MOST 1048576: true; the input reads as it did. -/
def fnExactComposeImagesUptoRow : OpenClaim := { program := "ytdcphheeapmjcaa", sum := "eef35b25fa3f2f2a6aeec164ab09c4433674eb0203a34ad5a4fc3dac00a704c7", func := "loop.example/g01171/laws.FnExactComposeImages", spec := "fnExactComposeImages", inPlace := ["internal/bytealg.IndexByteString", "internal/abi.NoEscape"], unfollowed := true, recurses := true, apart := false, narrowed := true }
def FnExactComposeImagesUptoSaid : Prop := fnExactComposeImagesUptoRow.holds Try.pinned (OpenSpec.upto fnExactComposeImagesSpec)

/-- 'laws.FnWords', WHERE WHAT IT READS IS OF BULK AT MOST 1048576: true; the input reads as it did. -/
def fnWordsUptoRow : OpenClaim := { program := "ytdcphheeapmjcaa", sum := "eef35b25fa3f2f2a6aeec164ab09c4433674eb0203a34ad5a4fc3dac00a704c7", func := "loop.example/g01171/laws.FnWords", spec := "fnWords", inPlace := ["internal/bytealg.IndexByteString", "internal/abi.NoEscape"], unfollowed := true, recurses := true, apart := false, narrowed := true }
def FnWordsUptoSaid : Prop := fnWordsUptoRow.holds Try.pinned (OpenSpec.upto fnWordsSpec)

/-- 'laws.FnCountedWords', WHERE WHAT IT READS IS OF BULK AT MOST 1048576: true; the input reads as it did. -/
def fnCountedWordsUptoRow : OpenClaim := { program := "ytdcphheeapmjcaa", sum := "eef35b25fa3f2f2a6aeec164ab09c4433674eb0203a34ad5a4fc3dac00a704c7", func := "loop.example/g01171/laws.FnCountedWords", spec := "fnCountedWords", inPlace := ["internal/abi.NoEscape", "internal/bytealg.IndexByteString"], unfollowed := true, recurses := true, apart := false, narrowed := true }
def FnCountedWordsUptoSaid : Prop := fnCountedWordsUptoRow.holds Try.pinned (OpenSpec.upto fnCountedWordsSpec)

/-- 'laws.FnImages', WHERE WHAT IT READS IS OF BULK AT MOST 1048576: true; the input reads as it did. -/
def fnImagesUptoRow : OpenClaim := { program := "ytdcphheeapmjcaa", sum := "eef35b25fa3f2f2a6aeec164ab09c4433674eb0203a34ad5a4fc3dac00a704c7", func := "loop.example/g01171/laws.FnImages", spec := "fnImages", inPlace := ["internal/bytealg.IndexByteString", "internal/abi.NoEscape"], unfollowed := true, recurses := true, apart := false, narrowed := true }
def FnImagesUptoSaid : Prop := fnImagesUptoRow.holds Try.pinned (OpenSpec.upto fnImagesSpec)

end Rows
end Go.Proofs.Ytdcphheeapmjcaa
