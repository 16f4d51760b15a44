/-
  No cell of these rows narrows 'for every input' (looked for: loops, veiled, ifaces, maps, wideKeys, modest, calm, conditions, laid).
  DERIVED. THE GIVEN ROWS OF THIS SEAT. 12 by the template 'for every input the law returns true; each argument reads behind the call as it read before'; 0 by the template 'total and deterministic' (their statements: YtandgjjfiniboaaTotals.lean).
  GIVEN WITH THE SEED: the statements are not yours to turn. If you find one false, say at which input.
  Laid BY PROGRAM, IN A SANDBOX (cutbox-rows.mjs): the forced cells as the released guide's own fill.sh prints them over the translation fd7c9e6faf135817… (all of the seat's roots in one cut). By AI agents, Wed Nov 11 2026. No macro, syntax, notation, axiom, sorry.
-/
import Derived.Test.YtandgjjfiniboaaChecked
import GoSem.Claim
import GoSem.ClaimJoined
import GoSem.ClaimMapViews
import Derived.JoinedTies
import Derived.KernelRfl
namespace Go.Proofs.Ytandgjjfiniboaa
/- THE CELL 'sum', in the pinned program and in every row, IS THE sha256 OF THE DUMP (.gsa) THAT YtandgjjfiniboaaProg.lean LOADS. Nothing in Lean hashes anything: it is a label: what it is worth is what the hold of that sum in a sandbox is worth. -/
noncomputable def Try.pinned : Pinned := { name := "ytandgjjfiniboaa", sum := "fd7c9e6faf135817b6193a38b1f10bc99cca47ed2a5a300949b78bacc0874f55", checked := Try.checked }
namespace Rows
def none {H : Type} : Left H := { results := [], args := [] }

/-- 'laws.FnExactMaskOf': WHATEVER THE INPUT: true; the input reads as it did. -/
def fnExactMaskOfSpec : ChangeSpec := { name := "fnExactMaskOf", fn := fun _ => fun
  | [d] => { results := [.lit (.bool true)], args := [d] }
  | _ => none }
def fnExactMaskOfRow : OpenClaim := { program := "ytandgjjfiniboaa", sum := "fd7c9e6faf135817b6193a38b1f10bc99cca47ed2a5a300949b78bacc0874f55", func := "loop.example/g01171/laws.FnExactMaskOf", spec := "fnExactMaskOf", apart := false }
def FnExactMaskOfSaid : Prop := fnExactMaskOfRow.holds Try.pinned (OpenSpec.ofChange fnExactMaskOfSpec)

/-- ITS FALSE NEIGHBOUR: 'it returns false'. Refute it at one input. -/
def fnExactMaskOfWrong : ChangeSpec := { name := "fnExactMaskOf", fn := fun _ => fun
  | [d] => { results := [.lit (.bool false)], args := [d] }
  | _ => none }
def FnExactMaskOfWrongFalsely : Prop := fnExactMaskOfRow.holds Try.pinned (OpenSpec.ofChange fnExactMaskOfWrong)

/-- 'laws.FnExactCellsOf': WHATEVER THE INPUT: true; the input reads as it did. -/
def fnExactCellsOfSpec : ChangeSpec := { name := "fnExactCellsOf", fn := fun _ => fun
  | [d] => { results := [.lit (.bool true)], args := [d] }
  | _ => none }
def fnExactCellsOfRow : OpenClaim := { program := "ytandgjjfiniboaa", sum := "fd7c9e6faf135817b6193a38b1f10bc99cca47ed2a5a300949b78bacc0874f55", func := "loop.example/g01171/laws.FnExactCellsOf", spec := "fnExactCellsOf", unfollowed := true, recurses := true, apart := false }
def FnExactCellsOfSaid : Prop := fnExactCellsOfRow.holds Try.pinned (OpenSpec.ofChange fnExactCellsOfSpec)

/-- ITS FALSE NEIGHBOUR: 'it returns false'. Refute it at one input. -/
def fnExactCellsOfWrong : ChangeSpec := { name := "fnExactCellsOf", fn := fun _ => fun
  | [d] => { results := [.lit (.bool false)], args := [d] }
  | _ => none }
def FnExactCellsOfWrongFalsely : Prop := fnExactCellsOfRow.holds Try.pinned (OpenSpec.ofChange fnExactCellsOfWrong)

/-- 'laws.FnExactHasCell': WHATEVER THE INPUT: true; the input reads as it did. -/
def fnExactHasCellSpec : ChangeSpec := { name := "fnExactHasCell", fn := fun _ => fun
  | [d1, d2, d3] => { results := [.lit (.bool true)], args := [d1, d2, d3] }
  | _ => none }
def fnExactHasCellRow : OpenClaim := { program := "ytandgjjfiniboaa", sum := "fd7c9e6faf135817b6193a38b1f10bc99cca47ed2a5a300949b78bacc0874f55", func := "loop.example/g01171/laws.FnExactHasCell", spec := "fnExactHasCell", apart := false }
def FnExactHasCellSaid : Prop := fnExactHasCellRow.holds Try.pinned (OpenSpec.ofChange fnExactHasCellSpec)

/-- ITS FALSE NEIGHBOUR: 'it returns false'. Refute it at one input. -/
def fnExactHasCellWrong : ChangeSpec := { name := "fnExactHasCell", fn := fun _ => fun
  | [d1, d2, d3] => { results := [.lit (.bool false)], args := [d1, d2, d3] }
  | _ => none }
def FnExactHasCellWrongFalsely : Prop := fnExactHasCellRow.holds Try.pinned (OpenSpec.ofChange fnExactHasCellWrong)

/-- 'laws.FnExactSetCell': WHATEVER THE INPUT: true; the input reads as it did. -/
def fnExactSetCellSpec : ChangeSpec := { name := "fnExactSetCell", fn := fun _ => fun
  | [d1, d2, d3, d4] => { results := [.lit (.bool true)], args := [d1, d2, d3, d4] }
  | _ => none }
def fnExactSetCellRow : OpenClaim := { program := "ytandgjjfiniboaa", sum := "fd7c9e6faf135817b6193a38b1f10bc99cca47ed2a5a300949b78bacc0874f55", func := "loop.example/g01171/laws.FnExactSetCell", spec := "fnExactSetCell", apart := false }
def FnExactSetCellSaid : Prop := fnExactSetCellRow.holds Try.pinned (OpenSpec.ofChange fnExactSetCellSpec)

/-- ITS FALSE NEIGHBOUR: 'it returns false'. Refute it at one input. -/
def fnExactSetCellWrong : ChangeSpec := { name := "fnExactSetCell", fn := fun _ => fun
  | [d1, d2, d3, d4] => { results := [.lit (.bool false)], args := [d1, d2, d3, d4] }
  | _ => none }
def FnExactSetCellWrongFalsely : Prop := fnExactSetCellRow.holds Try.pinned (OpenSpec.ofChange fnExactSetCellWrong)

/-- 'laws.FnExactCountCells': WHATEVER THE INPUT: true; the input reads as it did. -/
def fnExactCountCellsSpec : ChangeSpec := { name := "fnExactCountCells", fn := fun _ => fun
  | [d] => { results := [.lit (.bool true)], args := [d] }
  | _ => none }
def fnExactCountCellsRow : OpenClaim := { program := "ytandgjjfiniboaa", sum := "fd7c9e6faf135817b6193a38b1f10bc99cca47ed2a5a300949b78bacc0874f55", func := "loop.example/g01171/laws.FnExactCountCells", spec := "fnExactCountCells", apart := false }
def FnExactCountCellsSaid : Prop := fnExactCountCellsRow.holds Try.pinned (OpenSpec.ofChange fnExactCountCellsSpec)

/-- ITS FALSE NEIGHBOUR: 'it returns false'. Refute it at one input. -/
def fnExactCountCellsWrong : ChangeSpec := { name := "fnExactCountCells", fn := fun _ => fun
  | [d] => { results := [.lit (.bool false)], args := [d] }
  | _ => none }
def FnExactCountCellsWrongFalsely : Prop := fnExactCountCellsRow.holds Try.pinned (OpenSpec.ofChange fnExactCountCellsWrong)

/-- 'laws.FnExactJoinMasks': WHATEVER THE INPUT: true; the input reads as it did. -/
def fnExactJoinMasksSpec : ChangeSpec := { name := "fnExactJoinMasks", fn := fun _ => fun
  | [d1, d2] => { results := [.lit (.bool true)], args := [d1, d2] }
  | _ => none }
def fnExactJoinMasksRow : OpenClaim := { program := "ytandgjjfiniboaa", sum := "fd7c9e6faf135817b6193a38b1f10bc99cca47ed2a5a300949b78bacc0874f55", func := "loop.example/g01171/laws.FnExactJoinMasks", spec := "fnExactJoinMasks", unfollowed := true, recurses := true, apart := false }
def FnExactJoinMasksSaid : Prop := fnExactJoinMasksRow.holds Try.pinned (OpenSpec.ofChange fnExactJoinMasksSpec)

/-- ITS FALSE NEIGHBOUR: 'it returns false'. Refute it at one input. -/
def fnExactJoinMasksWrong : ChangeSpec := { name := "fnExactJoinMasks", fn := fun _ => fun
  | [d1, d2] => { results := [.lit (.bool false)], args := [d1, d2] }
  | _ => none }
def FnExactJoinMasksWrongFalsely : Prop := fnExactJoinMasksRow.holds Try.pinned (OpenSpec.ofChange fnExactJoinMasksWrong)

/-- 'laws.FnExactMeetMasks': WHATEVER THE INPUT: true; the input reads as it did. -/
def fnExactMeetMasksSpec : ChangeSpec := { name := "fnExactMeetMasks", fn := fun _ => fun
  | [d1, d2] => { results := [.lit (.bool true)], args := [d1, d2] }
  | _ => none }
def fnExactMeetMasksRow : OpenClaim := { program := "ytandgjjfiniboaa", sum := "fd7c9e6faf135817b6193a38b1f10bc99cca47ed2a5a300949b78bacc0874f55", func := "loop.example/g01171/laws.FnExactMeetMasks", spec := "fnExactMeetMasks", unfollowed := true, recurses := true, apart := false }
def FnExactMeetMasksSaid : Prop := fnExactMeetMasksRow.holds Try.pinned (OpenSpec.ofChange fnExactMeetMasksSpec)

/-- ITS FALSE NEIGHBOUR: 'it returns false'. Refute it at one input. -/
def fnExactMeetMasksWrong : ChangeSpec := { name := "fnExactMeetMasks", fn := fun _ => fun
  | [d1, d2] => { results := [.lit (.bool false)], args := [d1, d2] }
  | _ => none }
def FnExactMeetMasksWrongFalsely : Prop := fnExactMeetMasksRow.holds Try.pinned (OpenSpec.ofChange fnExactMeetMasksWrong)

/-- 'laws.FnExactMinusMasks': WHATEVER THE INPUT: true; the input reads as it did. -/
def fnExactMinusMasksSpec : ChangeSpec := { name := "fnExactMinusMasks", fn := fun _ => fun
  | [d1, d2] => { results := [.lit (.bool true)], args := [d1, d2] }
  | _ => none }
def fnExactMinusMasksRow : OpenClaim := { program := "ytandgjjfiniboaa", sum := "fd7c9e6faf135817b6193a38b1f10bc99cca47ed2a5a300949b78bacc0874f55", func := "loop.example/g01171/laws.FnExactMinusMasks", spec := "fnExactMinusMasks", unfollowed := true, recurses := true, apart := false }
def FnExactMinusMasksSaid : Prop := fnExactMinusMasksRow.holds Try.pinned (OpenSpec.ofChange fnExactMinusMasksSpec)

/-- ITS FALSE NEIGHBOUR: 'it returns false'. Refute it at one input. -/
def fnExactMinusMasksWrong : ChangeSpec := { name := "fnExactMinusMasks", fn := fun _ => fun
  | [d1, d2] => { results := [.lit (.bool false)], args := [d1, d2] }
  | _ => none }
def FnExactMinusMasksWrongFalsely : Prop := fnExactMinusMasksRow.holds Try.pinned (OpenSpec.ofChange fnExactMinusMasksWrong)

/-- 'laws.FnExactShiftMask': WHATEVER THE INPUT: true; the input reads as it did. -/
def fnExactShiftMaskSpec : ChangeSpec := { name := "fnExactShiftMask", fn := fun _ => fun
  | [d1, d2, d3] => { results := [.lit (.bool true)], args := [d1, d2, d3] }
  | _ => none }
def fnExactShiftMaskRow : OpenClaim := { program := "ytandgjjfiniboaa", sum := "fd7c9e6faf135817b6193a38b1f10bc99cca47ed2a5a300949b78bacc0874f55", func := "loop.example/g01171/laws.FnExactShiftMask", spec := "fnExactShiftMask", unfollowed := true, recurses := true, apart := false }
def FnExactShiftMaskSaid : Prop := fnExactShiftMaskRow.holds Try.pinned (OpenSpec.ofChange fnExactShiftMaskSpec)

/-- ITS FALSE NEIGHBOUR: 'it returns false'. Refute it at one input. -/
def fnExactShiftMaskWrong : ChangeSpec := { name := "fnExactShiftMask", fn := fun _ => fun
  | [d1, d2, d3] => { results := [.lit (.bool false)], args := [d1, d2, d3] }
  | _ => none }
def FnExactShiftMaskWrongFalsely : Prop := fnExactShiftMaskRow.holds Try.pinned (OpenSpec.ofChange fnExactShiftMaskWrong)

/-- 'laws.FnExactTurnMask': WHATEVER THE INPUT: true; the input reads as it did. -/
def fnExactTurnMaskSpec : ChangeSpec := { name := "fnExactTurnMask", fn := fun _ => fun
  | [d] => { results := [.lit (.bool true)], args := [d] }
  | _ => none }
def fnExactTurnMaskRow : OpenClaim := { program := "ytandgjjfiniboaa", sum := "fd7c9e6faf135817b6193a38b1f10bc99cca47ed2a5a300949b78bacc0874f55", func := "loop.example/g01171/laws.FnExactTurnMask", spec := "fnExactTurnMask", unfollowed := true, recurses := true, apart := false }
def FnExactTurnMaskSaid : Prop := fnExactTurnMaskRow.holds Try.pinned (OpenSpec.ofChange fnExactTurnMaskSpec)

/-- ITS FALSE NEIGHBOUR: 'it returns false'. Refute it at one input. -/
def fnExactTurnMaskWrong : ChangeSpec := { name := "fnExactTurnMask", fn := fun _ => fun
  | [d] => { results := [.lit (.bool false)], args := [d] }
  | _ => none }
def FnExactTurnMaskWrongFalsely : Prop := fnExactTurnMaskRow.holds Try.pinned (OpenSpec.ofChange fnExactTurnMaskWrong)

/-- 'laws.FnExactMirrorMask': WHATEVER THE INPUT: true; the input reads as it did. -/
def fnExactMirrorMaskSpec : ChangeSpec := { name := "fnExactMirrorMask", fn := fun _ => fun
  | [d] => { results := [.lit (.bool true)], args := [d] }
  | _ => none }
def fnExactMirrorMaskRow : OpenClaim := { program := "ytandgjjfiniboaa", sum := "fd7c9e6faf135817b6193a38b1f10bc99cca47ed2a5a300949b78bacc0874f55", func := "loop.example/g01171/laws.FnExactMirrorMask", spec := "fnExactMirrorMask", unfollowed := true, recurses := true, apart := false }
def FnExactMirrorMaskSaid : Prop := fnExactMirrorMaskRow.holds Try.pinned (OpenSpec.ofChange fnExactMirrorMaskSpec)

/-- ITS FALSE NEIGHBOUR: 'it returns false'. Refute it at one input. -/
def fnExactMirrorMaskWrong : ChangeSpec := { name := "fnExactMirrorMask", fn := fun _ => fun
  | [d] => { results := [.lit (.bool false)], args := [d] }
  | _ => none }
def FnExactMirrorMaskWrongFalsely : Prop := fnExactMirrorMaskRow.holds Try.pinned (OpenSpec.ofChange fnExactMirrorMaskWrong)

/-- 'laws.FnExactMaskText': WHATEVER THE INPUT: true; the input reads as it did. -/
def fnExactMaskTextSpec : ChangeSpec := { name := "fnExactMaskText", fn := fun _ => fun
  | [d] => { results := [.lit (.bool true)], args := [d] }
  | _ => none }
def fnExactMaskTextRow : OpenClaim := { program := "ytandgjjfiniboaa", sum := "fd7c9e6faf135817b6193a38b1f10bc99cca47ed2a5a300949b78bacc0874f55", func := "loop.example/g01171/laws.FnExactMaskText", spec := "fnExactMaskText", inPlace := ["internal/abi.NoEscape"], apart := false }
def FnExactMaskTextSaid : Prop := fnExactMaskTextRow.holds Try.pinned (OpenSpec.ofChange fnExactMaskTextSpec)

/-- ITS FALSE NEIGHBOUR: 'it returns false'. Refute it at one input. -/
def fnExactMaskTextWrong : ChangeSpec := { name := "fnExactMaskText", fn := fun _ => fun
  | [d] => { results := [.lit (.bool false)], args := [d] }
  | _ => none }
def FnExactMaskTextWrongFalsely : Prop := fnExactMaskTextRow.holds Try.pinned (OpenSpec.ofChange fnExactMaskTextWrong)

/- THE SECOND FORM. 'bulk': how many values and letters a reading holds, each counted each time it is reached (what is shared counts as often as it is met; a slice's spare places count too). A statement '..UptoSaid' is the law's where the arguments, and the package variables that the reading takes, are together of bulk at most 1048576: NARROWER than '..Said'. Prove '..Said' where nothing that the law and all that it calls make is longer than what came in: it says more and counts as full. Else prove '..UptoSaid'. A law counts once. -/
mutual
def uptoBulk {H : Type} : DataW H → Nat
  | .lit (.string bytes) => bytes.length + 1
  | .lit _ => 1
  | .nil => 1
  | .ptr d => uptoBulk d + 1
  | .slice elems spare => uptoBulkAll elems + uptoBulkAll spare + 1
  | .agg parts => uptoBulkAll parts + 1
  | .iface _ d => uptoBulk d + 1
  | .map entries => uptoBulkEntries entries + 1
  | .held _ => 1
def uptoBulkAll {H : Type} : List (DataW H) → Nat
  | [] => 0
  | d :: r => uptoBulk d + uptoBulkAll r
def uptoBulkEntries {H : Type} : List (Lit × DataW H) → Nat
  | [] => 0
  | x :: r => uptoBulkEntry x + uptoBulkEntries r
def uptoBulkEntry {H : Type} : Lit × DataW H → Nat
  | (.string bytes, d) => bytes.length + uptoBulk d + 1
  | (_, d) => uptoBulk d + 1
 end
def uptoSmall : (H : Type) → List (DataW H) → Bool := fun _ ds => decide (uptoBulkAll ds ≤ 1048576)
def OpenSpec.upto (s : _root_.Go.ChangeSpec) : _root_.Go.OpenSpec := { _root_.Go.OpenSpec.ofChange s with cond := some uptoSmall }

/-- 'laws.FnExactMaskOf', WHERE WHAT IT READS IS OF BULK AT MOST 1048576: true; the input reads as it did. -/
def fnExactMaskOfUptoRow : OpenClaim := { program := "ytandgjjfiniboaa", sum := "fd7c9e6faf135817b6193a38b1f10bc99cca47ed2a5a300949b78bacc0874f55", func := "loop.example/g01171/laws.FnExactMaskOf", spec := "fnExactMaskOf", apart := false, narrowed := true }
def FnExactMaskOfUptoSaid : Prop := fnExactMaskOfUptoRow.holds Try.pinned (OpenSpec.upto fnExactMaskOfSpec)

/-- 'laws.FnExactCellsOf', WHERE WHAT IT READS IS OF BULK AT MOST 1048576: true; the input reads as it did. -/
def fnExactCellsOfUptoRow : OpenClaim := { program := "ytandgjjfiniboaa", sum := "fd7c9e6faf135817b6193a38b1f10bc99cca47ed2a5a300949b78bacc0874f55", func := "loop.example/g01171/laws.FnExactCellsOf", spec := "fnExactCellsOf", unfollowed := true, recurses := true, apart := false, narrowed := true }
def FnExactCellsOfUptoSaid : Prop := fnExactCellsOfUptoRow.holds Try.pinned (OpenSpec.upto fnExactCellsOfSpec)

/-- 'laws.FnExactHasCell', WHERE WHAT IT READS IS OF BULK AT MOST 1048576: true; the input reads as it did. -/
def fnExactHasCellUptoRow : OpenClaim := { program := "ytandgjjfiniboaa", sum := "fd7c9e6faf135817b6193a38b1f10bc99cca47ed2a5a300949b78bacc0874f55", func := "loop.example/g01171/laws.FnExactHasCell", spec := "fnExactHasCell", apart := false, narrowed := true }
def FnExactHasCellUptoSaid : Prop := fnExactHasCellUptoRow.holds Try.pinned (OpenSpec.upto fnExactHasCellSpec)

/-- 'laws.FnExactSetCell', WHERE WHAT IT READS IS OF BULK AT MOST 1048576: true; the input reads as it did. -/
def fnExactSetCellUptoRow : OpenClaim := { program := "ytandgjjfiniboaa", sum := "fd7c9e6faf135817b6193a38b1f10bc99cca47ed2a5a300949b78bacc0874f55", func := "loop.example/g01171/laws.FnExactSetCell", spec := "fnExactSetCell", apart := false, narrowed := true }
def FnExactSetCellUptoSaid : Prop := fnExactSetCellUptoRow.holds Try.pinned (OpenSpec.upto fnExactSetCellSpec)

/-- 'laws.FnExactCountCells', WHERE WHAT IT READS IS OF BULK AT MOST 1048576: true; the input reads as it did. -/
def fnExactCountCellsUptoRow : OpenClaim := { program := "ytandgjjfiniboaa", sum := "fd7c9e6faf135817b6193a38b1f10bc99cca47ed2a5a300949b78bacc0874f55", func := "loop.example/g01171/laws.FnExactCountCells", spec := "fnExactCountCells", apart := false, narrowed := true }
def FnExactCountCellsUptoSaid : Prop := fnExactCountCellsUptoRow.holds Try.pinned (OpenSpec.upto fnExactCountCellsSpec)

/-- 'laws.FnExactJoinMasks', WHERE WHAT IT READS IS OF BULK AT MOST 1048576: true; the input reads as it did. -/
def fnExactJoinMasksUptoRow : OpenClaim := { program := "ytandgjjfiniboaa", sum := "fd7c9e6faf135817b6193a38b1f10bc99cca47ed2a5a300949b78bacc0874f55", func := "loop.example/g01171/laws.FnExactJoinMasks", spec := "fnExactJoinMasks", unfollowed := true, recurses := true, apart := false, narrowed := true }
def FnExactJoinMasksUptoSaid : Prop := fnExactJoinMasksUptoRow.holds Try.pinned (OpenSpec.upto fnExactJoinMasksSpec)

/-- 'laws.FnExactMeetMasks', WHERE WHAT IT READS IS OF BULK AT MOST 1048576: true; the input reads as it did. -/
def fnExactMeetMasksUptoRow : OpenClaim := { program := "ytandgjjfiniboaa", sum := "fd7c9e6faf135817b6193a38b1f10bc99cca47ed2a5a300949b78bacc0874f55", func := "loop.example/g01171/laws.FnExactMeetMasks", spec := "fnExactMeetMasks", unfollowed := true, recurses := true, apart := false, narrowed := true }
def FnExactMeetMasksUptoSaid : Prop := fnExactMeetMasksUptoRow.holds Try.pinned (OpenSpec.upto fnExactMeetMasksSpec)

/-- 'laws.FnExactMinusMasks', WHERE WHAT IT READS IS OF BULK AT MOST 1048576: true; the input reads as it did. -/
def fnExactMinusMasksUptoRow : OpenClaim := { program := "ytandgjjfiniboaa", sum := "fd7c9e6faf135817b6193a38b1f10bc99cca47ed2a5a300949b78bacc0874f55", func := "loop.example/g01171/laws.FnExactMinusMasks", spec := "fnExactMinusMasks", unfollowed := true, recurses := true, apart := false, narrowed := true }
def FnExactMinusMasksUptoSaid : Prop := fnExactMinusMasksUptoRow.holds Try.pinned (OpenSpec.upto fnExactMinusMasksSpec)

/-- 'laws.FnExactShiftMask', WHERE WHAT IT READS IS OF BULK AT MOST 1048576: true; the input reads as it did. -/
def fnExactShiftMaskUptoRow : OpenClaim := { program := "ytandgjjfiniboaa", sum := "fd7c9e6faf135817b6193a38b1f10bc99cca47ed2a5a300949b78bacc0874f55", func := "loop.example/g01171/laws.FnExactShiftMask", spec := "fnExactShiftMask", unfollowed := true, recurses := true, apart := false, narrowed := true }
def FnExactShiftMaskUptoSaid : Prop := fnExactShiftMaskUptoRow.holds Try.pinned (OpenSpec.upto fnExactShiftMaskSpec)

/-- 'laws.FnExactTurnMask', WHERE WHAT IT READS IS OF BULK AT MOST 1048576: true; the input reads as it did. -/
def fnExactTurnMaskUptoRow : OpenClaim := { program := "ytandgjjfiniboaa", sum := "fd7c9e6faf135817b6193a38b1f10bc99cca47ed2a5a300949b78bacc0874f55", func := "loop.example/g01171/laws.FnExactTurnMask", spec := "fnExactTurnMask", unfollowed := true, recurses := true, apart := false, narrowed := true }
def FnExactTurnMaskUptoSaid : Prop := fnExactTurnMaskUptoRow.holds Try.pinned (OpenSpec.upto fnExactTurnMaskSpec)

/-- 'laws.FnExactMirrorMask', WHERE WHAT IT READS IS OF BULK AT MOST 1048576: true; the input reads as it did. -/
def fnExactMirrorMaskUptoRow : OpenClaim := { program := "ytandgjjfiniboaa", sum := "fd7c9e6faf135817b6193a38b1f10bc99cca47ed2a5a300949b78bacc0874f55", func := "loop.example/g01171/laws.FnExactMirrorMask", spec := "fnExactMirrorMask", unfollowed := true, recurses := true, apart := false, narrowed := true }
def FnExactMirrorMaskUptoSaid : Prop := fnExactMirrorMaskUptoRow.holds Try.pinned (OpenSpec.upto fnExactMirrorMaskSpec)

/-- 'laws.FnExactMaskText', WHERE WHAT IT READS IS OF BULK AT MOST 1048576: true; the input reads as it did. -/
def fnExactMaskTextUptoRow : OpenClaim := { program := "ytandgjjfiniboaa", sum := "fd7c9e6faf135817b6193a38b1f10bc99cca47ed2a5a300949b78bacc0874f55", func := "loop.example/g01171/laws.FnExactMaskText", spec := "fnExactMaskText", inPlace := ["internal/abi.NoEscape"], apart := false, narrowed := true }
def FnExactMaskTextUptoSaid : Prop := fnExactMaskTextUptoRow.holds Try.pinned (OpenSpec.upto fnExactMaskTextSpec)

end Rows
end Go.Proofs.Ytandgjjfiniboaa
