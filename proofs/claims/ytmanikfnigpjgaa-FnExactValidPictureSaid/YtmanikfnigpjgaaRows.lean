/-
  No cell of these rows narrows 'for every input' (looked for: loops, veiled, ifaces, maps, wideKeys, modest, calm, conditions, laid).
  DERIVED. THE GIVEN ROWS OF THIS SEAT. 12 by the template 'for every input the law returns true; each argument reads behind the call as it read before'; 0 by the template 'total and deterministic' (their statements: YtmanikfnigpjgaaTotals.lean).
  GIVEN WITH THE SEED: the statements are not yours to turn. If you find one false, say at which input.
  Laid BY PROGRAM, IN A SANDBOX (cutbox-rows.mjs): the forced cells as the released guide's own fill.sh prints them over the translation 6d7ed729f8b3cf23… (all of the seat's roots in one cut). By AI agents, Wed Nov 11 2026. No macro, syntax, notation, axiom, sorry.
-/
import Derived.Test.YtmanikfnigpjgaaChecked
import GoSem.Claim
import GoSem.ClaimJoined
import GoSem.ClaimMapViews
import Derived.JoinedTies
import Derived.KernelRfl
namespace Go.Proofs.Ytmanikfnigpjgaa
/- THE CELL 'sum', in the pinned program and in every row, IS THE sha256 OF THE DUMP (.gsa) THAT YtmanikfnigpjgaaProg.lean LOADS. Nothing in Lean hashes anything: it is a label: what it is worth is what the hold of that sum in a sandbox is worth. -/
noncomputable def Try.pinned : Pinned := { name := "ytmanikfnigpjgaa", sum := "6d7ed729f8b3cf23c95b02c8330fb88a90989a0808b3e388c7476962045a9ba5", checked := Try.checked }
namespace Rows
def none {H : Type} : Left H := { results := [], args := [] }

/-- 'laws.FnExactReadMask': WHATEVER THE INPUT: true; the input reads as it did. -/
def fnExactReadMaskSpec : ChangeSpec := { name := "fnExactReadMask", fn := fun _ => fun
  | [d] => { results := [.lit (.bool true)], args := [d] }
  | _ => none }
def fnExactReadMaskRow : OpenClaim := { program := "ytmanikfnigpjgaa", sum := "6d7ed729f8b3cf23c95b02c8330fb88a90989a0808b3e388c7476962045a9ba5", func := "loop.example/g01171/laws.FnExactReadMask", spec := "fnExactReadMask", inPlace := ["internal/abi.NoEscape"], unfollowed := true, recurses := true, plainKeys := false, apart := false }
def FnExactReadMaskSaid : Prop := fnExactReadMaskRow.holds Try.pinned (OpenSpec.ofChange fnExactReadMaskSpec)

/-- ITS FALSE NEIGHBOUR: 'it returns false'. Refute it at one input. -/
def fnExactReadMaskWrong : ChangeSpec := { name := "fnExactReadMask", fn := fun _ => fun
  | [d] => { results := [.lit (.bool false)], args := [d] }
  | _ => none }
def FnExactReadMaskWrongFalsely : Prop := fnExactReadMaskRow.holds Try.pinned (OpenSpec.ofChange fnExactReadMaskWrong)

/-- 'laws.FnExactPackMask': WHATEVER THE INPUT: true; the input reads as it did. -/
def fnExactPackMaskSpec : ChangeSpec := { name := "fnExactPackMask", fn := fun _ => fun
  | [d] => { results := [.lit (.bool true)], args := [d] }
  | _ => none }
def fnExactPackMaskRow : OpenClaim := { program := "ytmanikfnigpjgaa", sum := "6d7ed729f8b3cf23c95b02c8330fb88a90989a0808b3e388c7476962045a9ba5", func := "loop.example/g01171/laws.FnExactPackMask", spec := "fnExactPackMask", plainKeys := false, apart := false }
def FnExactPackMaskSaid : Prop := fnExactPackMaskRow.holds Try.pinned (OpenSpec.ofChange fnExactPackMaskSpec)

/-- ITS FALSE NEIGHBOUR: 'it returns false'. Refute it at one input. -/
def fnExactPackMaskWrong : ChangeSpec := { name := "fnExactPackMask", fn := fun _ => fun
  | [d] => { results := [.lit (.bool false)], args := [d] }
  | _ => none }
def FnExactPackMaskWrongFalsely : Prop := fnExactPackMaskRow.holds Try.pinned (OpenSpec.ofChange fnExactPackMaskWrong)

/-- 'laws.FnExactUnpackMask': WHATEVER THE INPUT: true; the input reads as it did. -/
def fnExactUnpackMaskSpec : ChangeSpec := { name := "fnExactUnpackMask", fn := fun _ => fun
  | [d] => { results := [.lit (.bool true)], args := [d] }
  | _ => none }
def fnExactUnpackMaskRow : OpenClaim := { program := "ytmanikfnigpjgaa", sum := "6d7ed729f8b3cf23c95b02c8330fb88a90989a0808b3e388c7476962045a9ba5", func := "loop.example/g01171/laws.FnExactUnpackMask", spec := "fnExactUnpackMask", plainKeys := false, apart := false }
def FnExactUnpackMaskSaid : Prop := fnExactUnpackMaskRow.holds Try.pinned (OpenSpec.ofChange fnExactUnpackMaskSpec)

/-- ITS FALSE NEIGHBOUR: 'it returns false'. Refute it at one input. -/
def fnExactUnpackMaskWrong : ChangeSpec := { name := "fnExactUnpackMask", fn := fun _ => fun
  | [d] => { results := [.lit (.bool false)], args := [d] }
  | _ => none }
def FnExactUnpackMaskWrongFalsely : Prop := fnExactUnpackMaskRow.holds Try.pinned (OpenSpec.ofChange fnExactUnpackMaskWrong)

/-- 'laws.FnExactBlockAt': WHATEVER THE INPUT: true; the input reads as it did. -/
def fnExactBlockAtSpec : ChangeSpec := { name := "fnExactBlockAt", fn := fun _ => fun
  | [d1, d2] => { results := [.lit (.bool true)], args := [d1, d2] }
  | _ => none }
def fnExactBlockAtRow : OpenClaim := { program := "ytmanikfnigpjgaa", sum := "6d7ed729f8b3cf23c95b02c8330fb88a90989a0808b3e388c7476962045a9ba5", func := "loop.example/g01171/laws.FnExactBlockAt", spec := "fnExactBlockAt", plainKeys := false, apart := false }
def FnExactBlockAtSaid : Prop := fnExactBlockAtRow.holds Try.pinned (OpenSpec.ofChange fnExactBlockAtSpec)

/-- ITS FALSE NEIGHBOUR: 'it returns false'. Refute it at one input. -/
def fnExactBlockAtWrong : ChangeSpec := { name := "fnExactBlockAt", fn := fun _ => fun
  | [d1, d2] => { results := [.lit (.bool false)], args := [d1, d2] }
  | _ => none }
def FnExactBlockAtWrongFalsely : Prop := fnExactBlockAtRow.holds Try.pinned (OpenSpec.ofChange fnExactBlockAtWrong)

/-- 'laws.FnExactValidPicture': WHATEVER THE INPUT: true; the input reads as it did. -/
def fnExactValidPictureSpec : ChangeSpec := { name := "fnExactValidPicture", fn := fun _ => fun
  | [d] => { results := [.lit (.bool true)], args := [d] }
  | _ => none }
def fnExactValidPictureRow : OpenClaim := { program := "ytmanikfnigpjgaa", sum := "6d7ed729f8b3cf23c95b02c8330fb88a90989a0808b3e388c7476962045a9ba5", func := "loop.example/g01171/laws.FnExactValidPicture", spec := "fnExactValidPicture", unfollowed := true, recurses := true, plainKeys := false, apart := false }
def FnExactValidPictureSaid : Prop := fnExactValidPictureRow.holds Try.pinned (OpenSpec.ofChange fnExactValidPictureSpec)

/-- ITS FALSE NEIGHBOUR: 'it returns false'. Refute it at one input. -/
def fnExactValidPictureWrong : ChangeSpec := { name := "fnExactValidPicture", fn := fun _ => fun
  | [d] => { results := [.lit (.bool false)], args := [d] }
  | _ => none }
def FnExactValidPictureWrongFalsely : Prop := fnExactValidPictureRow.holds Try.pinned (OpenSpec.ofChange fnExactValidPictureWrong)

/-- 'laws.FnExactSamePicture': WHATEVER THE INPUT: true; the input reads as it did. -/
def fnExactSamePictureSpec : ChangeSpec := { name := "fnExactSamePicture", fn := fun _ => fun
  | [d1, d2] => { results := [.lit (.bool true)], args := [d1, d2] }
  | _ => none }
def fnExactSamePictureRow : OpenClaim := { program := "ytmanikfnigpjgaa", sum := "6d7ed729f8b3cf23c95b02c8330fb88a90989a0808b3e388c7476962045a9ba5", func := "loop.example/g01171/laws.FnExactSamePicture", spec := "fnExactSamePicture", plainKeys := false, apart := false }
def FnExactSamePictureSaid : Prop := fnExactSamePictureRow.holds Try.pinned (OpenSpec.ofChange fnExactSamePictureSpec)

/-- ITS FALSE NEIGHBOUR: 'it returns false'. Refute it at one input. -/
def fnExactSamePictureWrong : ChangeSpec := { name := "fnExactSamePicture", fn := fun _ => fun
  | [d1, d2] => { results := [.lit (.bool false)], args := [d1, d2] }
  | _ => none }
def FnExactSamePictureWrongFalsely : Prop := fnExactSamePictureRow.holds Try.pinned (OpenSpec.ofChange fnExactSamePictureWrong)

/-- 'laws.FnExactPictureOf': WHATEVER THE INPUT: true; the input reads as it did. -/
def fnExactPictureOfSpec : ChangeSpec := { name := "fnExactPictureOf", fn := fun _ => fun
  | [d] => { results := [.lit (.bool true)], args := [d] }
  | _ => none }
def fnExactPictureOfRow : OpenClaim := { program := "ytmanikfnigpjgaa", sum := "6d7ed729f8b3cf23c95b02c8330fb88a90989a0808b3e388c7476962045a9ba5", func := "loop.example/g01171/laws.FnExactPictureOf", spec := "fnExactPictureOf", unfollowed := true, recurses := true, plainKeys := false, apart := false }
def FnExactPictureOfSaid : Prop := fnExactPictureOfRow.holds Try.pinned (OpenSpec.ofChange fnExactPictureOfSpec)

/-- ITS FALSE NEIGHBOUR: 'it returns false'. Refute it at one input. -/
def fnExactPictureOfWrong : ChangeSpec := { name := "fnExactPictureOf", fn := fun _ => fun
  | [d] => { results := [.lit (.bool false)], args := [d] }
  | _ => none }
def FnExactPictureOfWrongFalsely : Prop := fnExactPictureOfRow.holds Try.pinned (OpenSpec.ofChange fnExactPictureOfWrong)

/-- 'laws.FnExactCellsOfPicture': WHATEVER THE INPUT: true; the input reads as it did. -/
def fnExactCellsOfPictureSpec : ChangeSpec := { name := "fnExactCellsOfPicture", fn := fun _ => fun
  | [d] => { results := [.lit (.bool true)], args := [d] }
  | _ => none }
def fnExactCellsOfPictureRow : OpenClaim := { program := "ytmanikfnigpjgaa", sum := "6d7ed729f8b3cf23c95b02c8330fb88a90989a0808b3e388c7476962045a9ba5", func := "loop.example/g01171/laws.FnExactCellsOfPicture", spec := "fnExactCellsOfPicture", unfollowed := true, recurses := true, plainKeys := false, apart := false }
def FnExactCellsOfPictureSaid : Prop := fnExactCellsOfPictureRow.holds Try.pinned (OpenSpec.ofChange fnExactCellsOfPictureSpec)

/-- ITS FALSE NEIGHBOUR: 'it returns false'. Refute it at one input. -/
def fnExactCellsOfPictureWrong : ChangeSpec := { name := "fnExactCellsOfPicture", fn := fun _ => fun
  | [d] => { results := [.lit (.bool false)], args := [d] }
  | _ => none }
def FnExactCellsOfPictureWrongFalsely : Prop := fnExactCellsOfPictureRow.holds Try.pinned (OpenSpec.ofChange fnExactCellsOfPictureWrong)

/-- 'laws.FnExactPictureHas': WHATEVER THE INPUT: true; the input reads as it did. -/
def fnExactPictureHasSpec : ChangeSpec := { name := "fnExactPictureHas", fn := fun _ => fun
  | [d1, d2, d3] => { results := [.lit (.bool true)], args := [d1, d2, d3] }
  | _ => none }
def fnExactPictureHasRow : OpenClaim := { program := "ytmanikfnigpjgaa", sum := "6d7ed729f8b3cf23c95b02c8330fb88a90989a0808b3e388c7476962045a9ba5", func := "loop.example/g01171/laws.FnExactPictureHas", spec := "fnExactPictureHas", unfollowed := true, recurses := true, plainKeys := false, apart := false }
def FnExactPictureHasSaid : Prop := fnExactPictureHasRow.holds Try.pinned (OpenSpec.ofChange fnExactPictureHasSpec)

/-- ITS FALSE NEIGHBOUR: 'it returns false'. Refute it at one input. -/
def fnExactPictureHasWrong : ChangeSpec := { name := "fnExactPictureHas", fn := fun _ => fun
  | [d1, d2, d3] => { results := [.lit (.bool false)], args := [d1, d2, d3] }
  | _ => none }
def FnExactPictureHasWrongFalsely : Prop := fnExactPictureHasRow.holds Try.pinned (OpenSpec.ofChange fnExactPictureHasWrong)

/-- 'laws.FnExactJoinPictures': WHATEVER THE INPUT: true; the input reads as it did. -/
def fnExactJoinPicturesSpec : ChangeSpec := { name := "fnExactJoinPictures", fn := fun _ => fun
  | [d1, d2] => { results := [.lit (.bool true)], args := [d1, d2] }
  | _ => none }
def fnExactJoinPicturesRow : OpenClaim := { program := "ytmanikfnigpjgaa", sum := "6d7ed729f8b3cf23c95b02c8330fb88a90989a0808b3e388c7476962045a9ba5", func := "loop.example/g01171/laws.FnExactJoinPictures", spec := "fnExactJoinPictures", unfollowed := true, recurses := true, plainKeys := false, apart := false }
def FnExactJoinPicturesSaid : Prop := fnExactJoinPicturesRow.holds Try.pinned (OpenSpec.ofChange fnExactJoinPicturesSpec)

/-- ITS FALSE NEIGHBOUR: 'it returns false'. Refute it at one input. -/
def fnExactJoinPicturesWrong : ChangeSpec := { name := "fnExactJoinPictures", fn := fun _ => fun
  | [d1, d2] => { results := [.lit (.bool false)], args := [d1, d2] }
  | _ => none }
def FnExactJoinPicturesWrongFalsely : Prop := fnExactJoinPicturesRow.holds Try.pinned (OpenSpec.ofChange fnExactJoinPicturesWrong)

/-- 'laws.FnExactMeetPictures': WHATEVER THE INPUT: true; the input reads as it did. -/
def fnExactMeetPicturesSpec : ChangeSpec := { name := "fnExactMeetPictures", fn := fun _ => fun
  | [d1, d2] => { results := [.lit (.bool true)], args := [d1, d2] }
  | _ => none }
def fnExactMeetPicturesRow : OpenClaim := { program := "ytmanikfnigpjgaa", sum := "6d7ed729f8b3cf23c95b02c8330fb88a90989a0808b3e388c7476962045a9ba5", func := "loop.example/g01171/laws.FnExactMeetPictures", spec := "fnExactMeetPictures", unfollowed := true, recurses := true, plainKeys := false, apart := false }
def FnExactMeetPicturesSaid : Prop := fnExactMeetPicturesRow.holds Try.pinned (OpenSpec.ofChange fnExactMeetPicturesSpec)

/-- ITS FALSE NEIGHBOUR: 'it returns false'. Refute it at one input. -/
def fnExactMeetPicturesWrong : ChangeSpec := { name := "fnExactMeetPictures", fn := fun _ => fun
  | [d1, d2] => { results := [.lit (.bool false)], args := [d1, d2] }
  | _ => none }
def FnExactMeetPicturesWrongFalsely : Prop := fnExactMeetPicturesRow.holds Try.pinned (OpenSpec.ofChange fnExactMeetPicturesWrong)

/-- 'laws.FnExactMinusPictures': WHATEVER THE INPUT: true; the input reads as it did. -/
def fnExactMinusPicturesSpec : ChangeSpec := { name := "fnExactMinusPictures", fn := fun _ => fun
  | [d1, d2] => { results := [.lit (.bool true)], args := [d1, d2] }
  | _ => none }
def fnExactMinusPicturesRow : OpenClaim := { program := "ytmanikfnigpjgaa", sum := "6d7ed729f8b3cf23c95b02c8330fb88a90989a0808b3e388c7476962045a9ba5", func := "loop.example/g01171/laws.FnExactMinusPictures", spec := "fnExactMinusPictures", unfollowed := true, recurses := true, plainKeys := false, apart := false }
def FnExactMinusPicturesSaid : Prop := fnExactMinusPicturesRow.holds Try.pinned (OpenSpec.ofChange fnExactMinusPicturesSpec)

/-- ITS FALSE NEIGHBOUR: 'it returns false'. Refute it at one input. -/
def fnExactMinusPicturesWrong : ChangeSpec := { name := "fnExactMinusPictures", fn := fun _ => fun
  | [d1, d2] => { results := [.lit (.bool false)], args := [d1, d2] }
  | _ => none }
def FnExactMinusPicturesWrongFalsely : Prop := fnExactMinusPicturesRow.holds Try.pinned (OpenSpec.ofChange fnExactMinusPicturesWrong)

/- THE SECOND FORM. 'bulk': how many values and letters a reading holds, each counted each time it is reached (what is shared counts as often as it is met; a slice's spare places count too). A statement '..UptoSaid' is the law's where the arguments, and the package variables that the reading takes, are together of bulk at most 1048576: NARROWER than '..Said'. Prove '..Said' where nothing that the law and all that it calls make is longer than what came in: it says more and counts as full. Else prove '..UptoSaid'. A law counts once. -/
mutual
def uptoBulk {H : Type} : DataW H → Nat
  | .lit (.string bytes) => bytes.length + 1
  | .lit _ => 1
  | .nil => 1
  | .ptr d => uptoBulk d + 1
  | .slice elems spare => uptoBulkAll elems + uptoBulkAll spare + 1
  | .agg parts => uptoBulkAll parts + 1
  | .iface _ d => uptoBulk d + 1
  | .map entries => uptoBulkEntries entries + 1
  | .held _ => 1
def uptoBulkAll {H : Type} : List (DataW H) → Nat
  | [] => 0
  | d :: r => uptoBulk d + uptoBulkAll r
def uptoBulkEntries {H : Type} : List (Lit × DataW H) → Nat
  | [] => 0
  | x :: r => uptoBulkEntry x + uptoBulkEntries r
def uptoBulkEntry {H : Type} : Lit × DataW H → Nat
  | (.string bytes, d) => bytes.length + uptoBulk d + 1
  | (_, d) => uptoBulk d + 1
 end
def uptoSmall : (H : Type) → List (DataW H) → Bool := fun _ ds => decide (uptoBulkAll ds ≤ 1048576)
def OpenSpec.upto (s : _root_.Go.ChangeSpec) : _root_.Go.OpenSpec := { _root_.Go.OpenSpec.ofChange s with cond := some uptoSmall }

/-- 'laws.FnExactReadMask', WHERE WHAT IT READS IS OF BULK AT MOST 1048576: true; the input reads as it did. -/
def fnExactReadMaskUptoRow : OpenClaim := { program := "ytmanikfnigpjgaa", sum := "6d7ed729f8b3cf23c95b02c8330fb88a90989a0808b3e388c7476962045a9ba5", func := "loop.example/g01171/laws.FnExactReadMask", spec := "fnExactReadMask", inPlace := ["internal/abi.NoEscape"], unfollowed := true, recurses := true, plainKeys := false, apart := false, narrowed := true }
def FnExactReadMaskUptoSaid : Prop := fnExactReadMaskUptoRow.holds Try.pinned (OpenSpec.upto fnExactReadMaskSpec)

/-- 'laws.FnExactPackMask', WHERE WHAT IT READS IS OF BULK AT MOST 1048576: true; the input reads as it did. -/
def fnExactPackMaskUptoRow : OpenClaim := { program := "ytmanikfnigpjgaa", sum := "6d7ed729f8b3cf23c95b02c8330fb88a90989a0808b3e388c7476962045a9ba5", func := "loop.example/g01171/laws.FnExactPackMask", spec := "fnExactPackMask", plainKeys := false, apart := false, narrowed := true }
def FnExactPackMaskUptoSaid : Prop := fnExactPackMaskUptoRow.holds Try.pinned (OpenSpec.upto fnExactPackMaskSpec)

/-- 'laws.FnExactUnpackMask', WHERE WHAT IT READS IS OF BULK AT MOST 1048576: true; the input reads as it did. -/
def fnExactUnpackMaskUptoRow : OpenClaim := { program := "ytmanikfnigpjgaa", sum := "6d7ed729f8b3cf23c95b02c8330fb88a90989a0808b3e388c7476962045a9ba5", func := "loop.example/g01171/laws.FnExactUnpackMask", spec := "fnExactUnpackMask", plainKeys := false, apart := false, narrowed := true }
def FnExactUnpackMaskUptoSaid : Prop := fnExactUnpackMaskUptoRow.holds Try.pinned (OpenSpec.upto fnExactUnpackMaskSpec)

/-- 'laws.FnExactBlockAt', WHERE WHAT IT READS IS OF BULK AT MOST 1048576: true; the input reads as it did. -/
def fnExactBlockAtUptoRow : OpenClaim := { program := "ytmanikfnigpjgaa", sum := "6d7ed729f8b3cf23c95b02c8330fb88a90989a0808b3e388c7476962045a9ba5", func := "loop.example/g01171/laws.FnExactBlockAt", spec := "fnExactBlockAt", plainKeys := false, apart := false, narrowed := true }
def FnExactBlockAtUptoSaid : Prop := fnExactBlockAtUptoRow.holds Try.pinned (OpenSpec.upto fnExactBlockAtSpec)

/-- 'laws.FnExactValidPicture', WHERE WHAT IT READS IS OF BULK AT MOST 1048576: true; the input reads as it did. -/
def fnExactValidPictureUptoRow : OpenClaim := { program := "ytmanikfnigpjgaa", sum := "6d7ed729f8b3cf23c95b02c8330fb88a90989a0808b3e388c7476962045a9ba5", func := "loop.example/g01171/laws.FnExactValidPicture", spec := "fnExactValidPicture", unfollowed := true, recurses := true, plainKeys := false, apart := false, narrowed := true }
def FnExactValidPictureUptoSaid : Prop := fnExactValidPictureUptoRow.holds Try.pinned (OpenSpec.upto fnExactValidPictureSpec)

/-- 'laws.FnExactSamePicture', WHERE WHAT IT READS IS OF BULK AT MOST 1048576: true; the input reads as it did. -/
def fnExactSamePictureUptoRow : OpenClaim := { program := "ytmanikfnigpjgaa", sum := "6d7ed729f8b3cf23c95b02c8330fb88a90989a0808b3e388c7476962045a9ba5", func := "loop.example/g01171/laws.FnExactSamePicture", spec := "fnExactSamePicture", plainKeys := false, apart := false, narrowed := true }
def FnExactSamePictureUptoSaid : Prop := fnExactSamePictureUptoRow.holds Try.pinned (OpenSpec.upto fnExactSamePictureSpec)

/-- 'laws.FnExactPictureOf', WHERE WHAT IT READS IS OF BULK AT MOST 1048576: true; the input reads as it did. -/
def fnExactPictureOfUptoRow : OpenClaim := { program := "ytmanikfnigpjgaa", sum := "6d7ed729f8b3cf23c95b02c8330fb88a90989a0808b3e388c7476962045a9ba5", func := "loop.example/g01171/laws.FnExactPictureOf", spec := "fnExactPictureOf", unfollowed := true, recurses := true, plainKeys := false, apart := false, narrowed := true }
def FnExactPictureOfUptoSaid : Prop := fnExactPictureOfUptoRow.holds Try.pinned (OpenSpec.upto fnExactPictureOfSpec)

/-- 'laws.FnExactCellsOfPicture', WHERE WHAT IT READS IS OF BULK AT MOST 1048576: true; the input reads as it did. -/
def fnExactCellsOfPictureUptoRow : OpenClaim := { program := "ytmanikfnigpjgaa", sum := "6d7ed729f8b3cf23c95b02c8330fb88a90989a0808b3e388c7476962045a9ba5", func := "loop.example/g01171/laws.FnExactCellsOfPicture", spec := "fnExactCellsOfPicture", unfollowed := true, recurses := true, plainKeys := false, apart := false, narrowed := true }
def FnExactCellsOfPictureUptoSaid : Prop := fnExactCellsOfPictureUptoRow.holds Try.pinned (OpenSpec.upto fnExactCellsOfPictureSpec)

/-- 'laws.FnExactPictureHas', WHERE WHAT IT READS IS OF BULK AT MOST 1048576: true; the input reads as it did. -/
def fnExactPictureHasUptoRow : OpenClaim := { program := "ytmanikfnigpjgaa", sum := "6d7ed729f8b3cf23c95b02c8330fb88a90989a0808b3e388c7476962045a9ba5", func := "loop.example/g01171/laws.FnExactPictureHas", spec := "fnExactPictureHas", unfollowed := true, recurses := true, plainKeys := false, apart := false, narrowed := true }
def FnExactPictureHasUptoSaid : Prop := fnExactPictureHasUptoRow.holds Try.pinned (OpenSpec.upto fnExactPictureHasSpec)

/-- 'laws.FnExactJoinPictures', WHERE WHAT IT READS IS OF BULK AT MOST 1048576: true; the input reads as it did. -/
def fnExactJoinPicturesUptoRow : OpenClaim := { program := "ytmanikfnigpjgaa", sum := "6d7ed729f8b3cf23c95b02c8330fb88a90989a0808b3e388c7476962045a9ba5", func := "loop.example/g01171/laws.FnExactJoinPictures", spec := "fnExactJoinPictures", unfollowed := true, recurses := true, plainKeys := false, apart := false, narrowed := true }
def FnExactJoinPicturesUptoSaid : Prop := fnExactJoinPicturesUptoRow.holds Try.pinned (OpenSpec.upto fnExactJoinPicturesSpec)

/-- 'laws.FnExactMeetPictures', WHERE WHAT IT READS IS OF BULK AT MOST 1048576: true; the input reads as it did. -/
def fnExactMeetPicturesUptoRow : OpenClaim := { program := "ytmanikfnigpjgaa", sum := "6d7ed729f8b3cf23c95b02c8330fb88a90989a0808b3e388c7476962045a9ba5", func := "loop.example/g01171/laws.FnExactMeetPictures", spec := "fnExactMeetPictures", unfollowed := true, recurses := true, plainKeys := false, apart := false, narrowed := true }
def FnExactMeetPicturesUptoSaid : Prop := fnExactMeetPicturesUptoRow.holds Try.pinned (OpenSpec.upto fnExactMeetPicturesSpec)

/-- 'laws.FnExactMinusPictures', WHERE WHAT IT READS IS OF BULK AT MOST 1048576: true; the input reads as it did. -/
def fnExactMinusPicturesUptoRow : OpenClaim := { program := "ytmanikfnigpjgaa", sum := "6d7ed729f8b3cf23c95b02c8330fb88a90989a0808b3e388c7476962045a9ba5", func := "loop.example/g01171/laws.FnExactMinusPictures", spec := "fnExactMinusPictures", unfollowed := true, recurses := true, plainKeys := false, apart := false, narrowed := true }
def FnExactMinusPicturesUptoSaid : Prop := fnExactMinusPicturesUptoRow.holds Try.pinned (OpenSpec.upto fnExactMinusPicturesSpec)

end Rows
end Go.Proofs.Ytmanikfnigpjgaa
