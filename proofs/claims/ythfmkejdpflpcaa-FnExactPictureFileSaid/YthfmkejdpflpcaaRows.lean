/-
  No cell of these rows narrows 'for every input' (looked for: loops, veiled, ifaces, maps, wideKeys, modest, calm, conditions, laid).
  DERIVED. THE GIVEN ROWS OF THIS SEAT. 11 by the template 'for every input the law returns true; each argument reads behind the call as it read before'; 0 by the template 'total and deterministic' (their statements: YthfmkejdpflpcaaTotals.lean).
  GIVEN WITH THE SEED: the statements are not yours to turn. If you find one false, say at which input.
  Laid BY PROGRAM, IN A SANDBOX (cutbox-rows.mjs): the forced cells as the released guide's own fill.sh prints them over the translation ab90a29771ec244f… (all of the seat's roots in one cut). By AI agents, Wed Nov 11 2026. No macro, syntax, notation, axiom, sorry.
-/
import Derived.Test.YthfmkejdpflpcaaChecked
import GoSem.Claim
import GoSem.ClaimJoined
import GoSem.ClaimMapViews
import Derived.JoinedTies
import Derived.KernelRfl
namespace Go.Proofs.Ythfmkejdpflpcaa
/- THE CELL 'sum', in the pinned program and in every row, IS THE sha256 OF THE DUMP (.gsa) THAT YthfmkejdpflpcaaProg.lean LOADS. Nothing in Lean hashes anything: it is a label: what it is worth is what the hold of that sum in a sandbox is worth. -/
noncomputable def Try.pinned : Pinned := { name := "ythfmkejdpflpcaa", sum := "ab90a29771ec244fa166b30e95aec3751b9947671a1fb12d6b74ce9461bf3cec", checked := Try.checked }
namespace Rows
def none {H : Type} : Left H := { results := [], args := [] }

/-- 'laws.FnExactPictureOf': WHATEVER THE INPUT: true; the input reads as it did. -/
def fnExactPictureOfSpec : ChangeSpec := { name := "fnExactPictureOf", fn := fun _ => fun
  | [d] => { results := [.lit (.bool true)], args := [d] }
  | _ => none }
def fnExactPictureOfRow : OpenClaim := { program := "ythfmkejdpflpcaa", sum := "ab90a29771ec244fa166b30e95aec3751b9947671a1fb12d6b74ce9461bf3cec", func := "loop.example/g01171/laws.FnExactPictureOf", spec := "fnExactPictureOf", unfollowed := true, recurses := true, plainKeys := false, apart := false }
def FnExactPictureOfSaid : Prop := fnExactPictureOfRow.holds Try.pinned (OpenSpec.ofChange fnExactPictureOfSpec)

/-- ITS FALSE NEIGHBOUR: 'it returns false'. Refute it at one input. -/
def fnExactPictureOfWrong : ChangeSpec := { name := "fnExactPictureOf", fn := fun _ => fun
  | [d] => { results := [.lit (.bool false)], args := [d] }
  | _ => none }
def FnExactPictureOfWrongFalsely : Prop := fnExactPictureOfRow.holds Try.pinned (OpenSpec.ofChange fnExactPictureOfWrong)

/-- 'laws.FnExactCellsOfPicture': WHATEVER THE INPUT: true; the input reads as it did. -/
def fnExactCellsOfPictureSpec : ChangeSpec := { name := "fnExactCellsOfPicture", fn := fun _ => fun
  | [d] => { results := [.lit (.bool true)], args := [d] }
  | _ => none }
def fnExactCellsOfPictureRow : OpenClaim := { program := "ythfmkejdpflpcaa", sum := "ab90a29771ec244fa166b30e95aec3751b9947671a1fb12d6b74ce9461bf3cec", func := "loop.example/g01171/laws.FnExactCellsOfPicture", spec := "fnExactCellsOfPicture", unfollowed := true, recurses := true, plainKeys := false, apart := false }
def FnExactCellsOfPictureSaid : Prop := fnExactCellsOfPictureRow.holds Try.pinned (OpenSpec.ofChange fnExactCellsOfPictureSpec)

/-- ITS FALSE NEIGHBOUR: 'it returns false'. Refute it at one input. -/
def fnExactCellsOfPictureWrong : ChangeSpec := { name := "fnExactCellsOfPicture", fn := fun _ => fun
  | [d] => { results := [.lit (.bool false)], args := [d] }
  | _ => none }
def FnExactCellsOfPictureWrongFalsely : Prop := fnExactCellsOfPictureRow.holds Try.pinned (OpenSpec.ofChange fnExactCellsOfPictureWrong)

/-- 'laws.FnExactPictureHas': WHATEVER THE INPUT: true; the input reads as it did. -/
def fnExactPictureHasSpec : ChangeSpec := { name := "fnExactPictureHas", fn := fun _ => fun
  | [d1, d2, d3] => { results := [.lit (.bool true)], args := [d1, d2, d3] }
  | _ => none }
def fnExactPictureHasRow : OpenClaim := { program := "ythfmkejdpflpcaa", sum := "ab90a29771ec244fa166b30e95aec3751b9947671a1fb12d6b74ce9461bf3cec", func := "loop.example/g01171/laws.FnExactPictureHas", spec := "fnExactPictureHas", unfollowed := true, recurses := true, plainKeys := false, apart := false }
def FnExactPictureHasSaid : Prop := fnExactPictureHasRow.holds Try.pinned (OpenSpec.ofChange fnExactPictureHasSpec)

/-- ITS FALSE NEIGHBOUR: 'it returns false'. Refute it at one input. -/
def fnExactPictureHasWrong : ChangeSpec := { name := "fnExactPictureHas", fn := fun _ => fun
  | [d1, d2, d3] => { results := [.lit (.bool false)], args := [d1, d2, d3] }
  | _ => none }
def FnExactPictureHasWrongFalsely : Prop := fnExactPictureHasRow.holds Try.pinned (OpenSpec.ofChange fnExactPictureHasWrong)

/-- 'laws.FnExactJoinPictures': WHATEVER THE INPUT: true; the input reads as it did. -/
def fnExactJoinPicturesSpec : ChangeSpec := { name := "fnExactJoinPictures", fn := fun _ => fun
  | [d1, d2] => { results := [.lit (.bool true)], args := [d1, d2] }
  | _ => none }
def fnExactJoinPicturesRow : OpenClaim := { program := "ythfmkejdpflpcaa", sum := "ab90a29771ec244fa166b30e95aec3751b9947671a1fb12d6b74ce9461bf3cec", func := "loop.example/g01171/laws.FnExactJoinPictures", spec := "fnExactJoinPictures", unfollowed := true, recurses := true, plainKeys := false, apart := false }
def FnExactJoinPicturesSaid : Prop := fnExactJoinPicturesRow.holds Try.pinned (OpenSpec.ofChange fnExactJoinPicturesSpec)

/-- ITS FALSE NEIGHBOUR: 'it returns false'. Refute it at one input. -/
def fnExactJoinPicturesWrong : ChangeSpec := { name := "fnExactJoinPictures", fn := fun _ => fun
  | [d1, d2] => { results := [.lit (.bool false)], args := [d1, d2] }
  | _ => none }
def FnExactJoinPicturesWrongFalsely : Prop := fnExactJoinPicturesRow.holds Try.pinned (OpenSpec.ofChange fnExactJoinPicturesWrong)

/-- 'laws.FnExactMeetPictures': WHATEVER THE INPUT: true; the input reads as it did. -/
def fnExactMeetPicturesSpec : ChangeSpec := { name := "fnExactMeetPictures", fn := fun _ => fun
  | [d1, d2] => { results := [.lit (.bool true)], args := [d1, d2] }
  | _ => none }
def fnExactMeetPicturesRow : OpenClaim := { program := "ythfmkejdpflpcaa", sum := "ab90a29771ec244fa166b30e95aec3751b9947671a1fb12d6b74ce9461bf3cec", func := "loop.example/g01171/laws.FnExactMeetPictures", spec := "fnExactMeetPictures", unfollowed := true, recurses := true, plainKeys := false, apart := false }
def FnExactMeetPicturesSaid : Prop := fnExactMeetPicturesRow.holds Try.pinned (OpenSpec.ofChange fnExactMeetPicturesSpec)

/-- ITS FALSE NEIGHBOUR: 'it returns false'. Refute it at one input. -/
def fnExactMeetPicturesWrong : ChangeSpec := { name := "fnExactMeetPictures", fn := fun _ => fun
  | [d1, d2] => { results := [.lit (.bool false)], args := [d1, d2] }
  | _ => none }
def FnExactMeetPicturesWrongFalsely : Prop := fnExactMeetPicturesRow.holds Try.pinned (OpenSpec.ofChange fnExactMeetPicturesWrong)

/-- 'laws.FnExactMinusPictures': WHATEVER THE INPUT: true; the input reads as it did. -/
def fnExactMinusPicturesSpec : ChangeSpec := { name := "fnExactMinusPictures", fn := fun _ => fun
  | [d1, d2] => { results := [.lit (.bool true)], args := [d1, d2] }
  | _ => none }
def fnExactMinusPicturesRow : OpenClaim := { program := "ythfmkejdpflpcaa", sum := "ab90a29771ec244fa166b30e95aec3751b9947671a1fb12d6b74ce9461bf3cec", func := "loop.example/g01171/laws.FnExactMinusPictures", spec := "fnExactMinusPictures", unfollowed := true, recurses := true, plainKeys := false, apart := false }
def FnExactMinusPicturesSaid : Prop := fnExactMinusPicturesRow.holds Try.pinned (OpenSpec.ofChange fnExactMinusPicturesSpec)

/-- ITS FALSE NEIGHBOUR: 'it returns false'. Refute it at one input. -/
def fnExactMinusPicturesWrong : ChangeSpec := { name := "fnExactMinusPictures", fn := fun _ => fun
  | [d1, d2] => { results := [.lit (.bool false)], args := [d1, d2] }
  | _ => none }
def FnExactMinusPicturesWrongFalsely : Prop := fnExactMinusPicturesRow.holds Try.pinned (OpenSpec.ofChange fnExactMinusPicturesWrong)

/-- 'laws.FnExactCountPicture': WHATEVER THE INPUT: true; the input reads as it did. -/
def fnExactCountPictureSpec : ChangeSpec := { name := "fnExactCountPicture", fn := fun _ => fun
  | [d] => { results := [.lit (.bool true)], args := [d] }
  | _ => none }
def fnExactCountPictureRow : OpenClaim := { program := "ythfmkejdpflpcaa", sum := "ab90a29771ec244fa166b30e95aec3751b9947671a1fb12d6b74ce9461bf3cec", func := "loop.example/g01171/laws.FnExactCountPicture", spec := "fnExactCountPicture", unfollowed := true, recurses := true, plainKeys := false, apart := false }
def FnExactCountPictureSaid : Prop := fnExactCountPictureRow.holds Try.pinned (OpenSpec.ofChange fnExactCountPictureSpec)

/-- ITS FALSE NEIGHBOUR: 'it returns false'. Refute it at one input. -/
def fnExactCountPictureWrong : ChangeSpec := { name := "fnExactCountPicture", fn := fun _ => fun
  | [d] => { results := [.lit (.bool false)], args := [d] }
  | _ => none }
def FnExactCountPictureWrongFalsely : Prop := fnExactCountPictureRow.holds Try.pinned (OpenSpec.ofChange fnExactCountPictureWrong)

/-- 'laws.FnExactFrameOf': WHATEVER THE INPUT: true; the input reads as it did. -/
def fnExactFrameOfSpec : ChangeSpec := { name := "fnExactFrameOf", fn := fun _ => fun
  | [d] => { results := [.lit (.bool true)], args := [d] }
  | _ => none }
def fnExactFrameOfRow : OpenClaim := { program := "ythfmkejdpflpcaa", sum := "ab90a29771ec244fa166b30e95aec3751b9947671a1fb12d6b74ce9461bf3cec", func := "loop.example/g01171/laws.FnExactFrameOf", spec := "fnExactFrameOf", unfollowed := true, recurses := true, plainKeys := false, apart := false }
def FnExactFrameOfSaid : Prop := fnExactFrameOfRow.holds Try.pinned (OpenSpec.ofChange fnExactFrameOfSpec)

/-- ITS FALSE NEIGHBOUR: 'it returns false'. Refute it at one input. -/
def fnExactFrameOfWrong : ChangeSpec := { name := "fnExactFrameOf", fn := fun _ => fun
  | [d] => { results := [.lit (.bool false)], args := [d] }
  | _ => none }
def FnExactFrameOfWrongFalsely : Prop := fnExactFrameOfRow.holds Try.pinned (OpenSpec.ofChange fnExactFrameOfWrong)

/-- 'laws.FnExactEdgeOf': WHATEVER THE INPUT: true; the input reads as it did. -/
def fnExactEdgeOfSpec : ChangeSpec := { name := "fnExactEdgeOf", fn := fun _ => fun
  | [d] => { results := [.lit (.bool true)], args := [d] }
  | _ => none }
def fnExactEdgeOfRow : OpenClaim := { program := "ythfmkejdpflpcaa", sum := "ab90a29771ec244fa166b30e95aec3751b9947671a1fb12d6b74ce9461bf3cec", func := "loop.example/g01171/laws.FnExactEdgeOf", spec := "fnExactEdgeOf", unfollowed := true, recurses := true, plainKeys := false, apart := false }
def FnExactEdgeOfSaid : Prop := fnExactEdgeOfRow.holds Try.pinned (OpenSpec.ofChange fnExactEdgeOfSpec)

/-- ITS FALSE NEIGHBOUR: 'it returns false'. Refute it at one input. -/
def fnExactEdgeOfWrong : ChangeSpec := { name := "fnExactEdgeOf", fn := fun _ => fun
  | [d] => { results := [.lit (.bool false)], args := [d] }
  | _ => none }
def FnExactEdgeOfWrongFalsely : Prop := fnExactEdgeOfRow.holds Try.pinned (OpenSpec.ofChange fnExactEdgeOfWrong)

/-- 'laws.FnExactPictureFile': WHATEVER THE INPUT: true; the input reads as it did. -/
def fnExactPictureFileSpec : ChangeSpec := { name := "fnExactPictureFile", fn := fun _ => fun
  | [d] => { results := [.lit (.bool true)], args := [d] }
  | _ => none }
def fnExactPictureFileRow : OpenClaim := { program := "ythfmkejdpflpcaa", sum := "ab90a29771ec244fa166b30e95aec3751b9947671a1fb12d6b74ce9461bf3cec", func := "loop.example/g01171/laws.FnExactPictureFile", spec := "fnExactPictureFile", unfollowed := true, recurses := true, plainKeys := false, apart := false }
def FnExactPictureFileSaid : Prop := fnExactPictureFileRow.holds Try.pinned (OpenSpec.ofChange fnExactPictureFileSpec)

/-- ITS FALSE NEIGHBOUR: 'it returns false'. Refute it at one input. -/
def fnExactPictureFileWrong : ChangeSpec := { name := "fnExactPictureFile", fn := fun _ => fun
  | [d] => { results := [.lit (.bool false)], args := [d] }
  | _ => none }
def FnExactPictureFileWrongFalsely : Prop := fnExactPictureFileRow.holds Try.pinned (OpenSpec.ofChange fnExactPictureFileWrong)

/-- 'laws.FnExactReadPictureFile': WHATEVER THE INPUT: true; the input reads as it did. -/
def fnExactReadPictureFileSpec : ChangeSpec := { name := "fnExactReadPictureFile", fn := fun _ => fun
  | [d] => { results := [.lit (.bool true)], args := [d] }
  | _ => none }
def fnExactReadPictureFileRow : OpenClaim := { program := "ythfmkejdpflpcaa", sum := "ab90a29771ec244fa166b30e95aec3751b9947671a1fb12d6b74ce9461bf3cec", func := "loop.example/g01171/laws.FnExactReadPictureFile", spec := "fnExactReadPictureFile", unfollowed := true, recurses := true, plainKeys := false, apart := false }
def FnExactReadPictureFileSaid : Prop := fnExactReadPictureFileRow.holds Try.pinned (OpenSpec.ofChange fnExactReadPictureFileSpec)

/-- ITS FALSE NEIGHBOUR: 'it returns false'. Refute it at one input. -/
def fnExactReadPictureFileWrong : ChangeSpec := { name := "fnExactReadPictureFile", fn := fun _ => fun
  | [d] => { results := [.lit (.bool false)], args := [d] }
  | _ => none }
def FnExactReadPictureFileWrongFalsely : Prop := fnExactReadPictureFileRow.holds Try.pinned (OpenSpec.ofChange fnExactReadPictureFileWrong)

/- THE SECOND FORM. 'bulk': how many values and letters a reading holds, each counted each time it is reached (what is shared counts as often as it is met; a slice's spare places count too). A statement '..UptoSaid' is the law's where the arguments, and the package variables that the reading takes, are together of bulk at most 1048576: NARROWER than '..Said'. Prove '..Said' where nothing that the law and all that it calls make is longer than what came in: it says more and counts as full. Else prove '..UptoSaid'. A law counts once. -/
mutual
def uptoBulk {H : Type} : DataW H → Nat
  | .lit (.string bytes) => bytes.length + 1
  | .lit _ => 1
  | .nil => 1
  | .ptr d => uptoBulk d + 1
  | .slice elems spare => uptoBulkAll elems + uptoBulkAll spare + 1
  | .agg parts => uptoBulkAll parts + 1
  | .iface _ d => uptoBulk d + 1
  | .map entries => uptoBulkEntries entries + 1
  | .held _ => 1
def uptoBulkAll {H : Type} : List (DataW H) → Nat
  | [] => 0
  | d :: r => uptoBulk d + uptoBulkAll r
def uptoBulkEntries {H : Type} : List (Lit × DataW H) → Nat
  | [] => 0
  | x :: r => uptoBulkEntry x + uptoBulkEntries r
def uptoBulkEntry {H : Type} : Lit × DataW H → Nat
  | (.string bytes, d) => bytes.length + uptoBulk d + 1
  | (_, d) => uptoBulk d + 1
 end
def uptoSmall : (H : Type) → List (DataW H) → Bool := fun _ ds => decide (uptoBulkAll ds ≤ 1048576)
def OpenSpec.upto (s : _root_.Go.ChangeSpec) : _root_.Go.OpenSpec := { _root_.Go.OpenSpec.ofChange s with cond := some uptoSmall }

/-- 'laws.FnExactPictureOf', WHERE WHAT IT READS IS OF BULK AT MOST 1048576: true; the input reads as it did. -/
def fnExactPictureOfUptoRow : OpenClaim := { program := "ythfmkejdpflpcaa", sum := "ab90a29771ec244fa166b30e95aec3751b9947671a1fb12d6b74ce9461bf3cec", func := "loop.example/g01171/laws.FnExactPictureOf", spec := "fnExactPictureOf", unfollowed := true, recurses := true, plainKeys := false, apart := false, narrowed := true }
def FnExactPictureOfUptoSaid : Prop := fnExactPictureOfUptoRow.holds Try.pinned (OpenSpec.upto fnExactPictureOfSpec)

/-- 'laws.FnExactCellsOfPicture', WHERE WHAT IT READS IS OF BULK AT MOST 1048576: true; the input reads as it did. -/
def fnExactCellsOfPictureUptoRow : OpenClaim := { program := "ythfmkejdpflpcaa", sum := "ab90a29771ec244fa166b30e95aec3751b9947671a1fb12d6b74ce9461bf3cec", func := "loop.example/g01171/laws.FnExactCellsOfPicture", spec := "fnExactCellsOfPicture", unfollowed := true, recurses := true, plainKeys := false, apart := false, narrowed := true }
def FnExactCellsOfPictureUptoSaid : Prop := fnExactCellsOfPictureUptoRow.holds Try.pinned (OpenSpec.upto fnExactCellsOfPictureSpec)

/-- 'laws.FnExactPictureHas', WHERE WHAT IT READS IS OF BULK AT MOST 1048576: true; the input reads as it did. -/
def fnExactPictureHasUptoRow : OpenClaim := { program := "ythfmkejdpflpcaa", sum := "ab90a29771ec244fa166b30e95aec3751b9947671a1fb12d6b74ce9461bf3cec", func := "loop.example/g01171/laws.FnExactPictureHas", spec := "fnExactPictureHas", unfollowed := true, recurses := true, plainKeys := false, apart := false, narrowed := true }
def FnExactPictureHasUptoSaid : Prop := fnExactPictureHasUptoRow.holds Try.pinned (OpenSpec.upto fnExactPictureHasSpec)

/-- 'laws.FnExactJoinPictures', WHERE WHAT IT READS IS OF BULK AT MOST 1048576: true; the input reads as it did. -/
def fnExactJoinPicturesUptoRow : OpenClaim := { program := "ythfmkejdpflpcaa", sum := "ab90a29771ec244fa166b30e95aec3751b9947671a1fb12d6b74ce9461bf3cec", func := "loop.example/g01171/laws.FnExactJoinPictures", spec := "fnExactJoinPictures", unfollowed := true, recurses := true, plainKeys := false, apart := false, narrowed := true }
def FnExactJoinPicturesUptoSaid : Prop := fnExactJoinPicturesUptoRow.holds Try.pinned (OpenSpec.upto fnExactJoinPicturesSpec)

/-- 'laws.FnExactMeetPictures', WHERE WHAT IT READS IS OF BULK AT MOST 1048576: true; the input reads as it did. -/
def fnExactMeetPicturesUptoRow : OpenClaim := { program := "ythfmkejdpflpcaa", sum := "ab90a29771ec244fa166b30e95aec3751b9947671a1fb12d6b74ce9461bf3cec", func := "loop.example/g01171/laws.FnExactMeetPictures", spec := "fnExactMeetPictures", unfollowed := true, recurses := true, plainKeys := false, apart := false, narrowed := true }
def FnExactMeetPicturesUptoSaid : Prop := fnExactMeetPicturesUptoRow.holds Try.pinned (OpenSpec.upto fnExactMeetPicturesSpec)

/-- 'laws.FnExactMinusPictures', WHERE WHAT IT READS IS OF BULK AT MOST 1048576: true; the input reads as it did. -/
def fnExactMinusPicturesUptoRow : OpenClaim := { program := "ythfmkejdpflpcaa", sum := "ab90a29771ec244fa166b30e95aec3751b9947671a1fb12d6b74ce9461bf3cec", func := "loop.example/g01171/laws.FnExactMinusPictures", spec := "fnExactMinusPictures", unfollowed := true, recurses := true, plainKeys := false, apart := false, narrowed := true }
def FnExactMinusPicturesUptoSaid : Prop := fnExactMinusPicturesUptoRow.holds Try.pinned (OpenSpec.upto fnExactMinusPicturesSpec)

/-- 'laws.FnExactCountPicture', WHERE WHAT IT READS IS OF BULK AT MOST 1048576: true; the input reads as it did. -/
def fnExactCountPictureUptoRow : OpenClaim := { program := "ythfmkejdpflpcaa", sum := "ab90a29771ec244fa166b30e95aec3751b9947671a1fb12d6b74ce9461bf3cec", func := "loop.example/g01171/laws.FnExactCountPicture", spec := "fnExactCountPicture", unfollowed := true, recurses := true, plainKeys := false, apart := false, narrowed := true }
def FnExactCountPictureUptoSaid : Prop := fnExactCountPictureUptoRow.holds Try.pinned (OpenSpec.upto fnExactCountPictureSpec)

/-- 'laws.FnExactFrameOf', WHERE WHAT IT READS IS OF BULK AT MOST 1048576: true; the input reads as it did. -/
def fnExactFrameOfUptoRow : OpenClaim := { program := "ythfmkejdpflpcaa", sum := "ab90a29771ec244fa166b30e95aec3751b9947671a1fb12d6b74ce9461bf3cec", func := "loop.example/g01171/laws.FnExactFrameOf", spec := "fnExactFrameOf", unfollowed := true, recurses := true, plainKeys := false, apart := false, narrowed := true }
def FnExactFrameOfUptoSaid : Prop := fnExactFrameOfUptoRow.holds Try.pinned (OpenSpec.upto fnExactFrameOfSpec)

/-- 'laws.FnExactEdgeOf', WHERE WHAT IT READS IS OF BULK AT MOST 1048576: true; the input reads as it did. -/
def fnExactEdgeOfUptoRow : OpenClaim := { program := "ythfmkejdpflpcaa", sum := "ab90a29771ec244fa166b30e95aec3751b9947671a1fb12d6b74ce9461bf3cec", func := "loop.example/g01171/laws.FnExactEdgeOf", spec := "fnExactEdgeOf", unfollowed := true, recurses := true, plainKeys := false, apart := false, narrowed := true }
def FnExactEdgeOfUptoSaid : Prop := fnExactEdgeOfUptoRow.holds Try.pinned (OpenSpec.upto fnExactEdgeOfSpec)

/-- 'laws.FnExactPictureFile', WHERE WHAT IT READS IS OF BULK AT MOST 1048576: true; the input reads as it did. -/
def fnExactPictureFileUptoRow : OpenClaim := { program := "ythfmkejdpflpcaa", sum := "ab90a29771ec244fa166b30e95aec3751b9947671a1fb12d6b74ce9461bf3cec", func := "loop.example/g01171/laws.FnExactPictureFile", spec := "fnExactPictureFile", unfollowed := true, recurses := true, plainKeys := false, apart := false, narrowed := true }
def FnExactPictureFileUptoSaid : Prop := fnExactPictureFileUptoRow.holds Try.pinned (OpenSpec.upto fnExactPictureFileSpec)

/-- 'laws.FnExactReadPictureFile', WHERE WHAT IT READS IS OF BULK AT MOST 1048576: true; the input reads as it did. -/
def fnExactReadPictureFileUptoRow : OpenClaim := { program := "ythfmkejdpflpcaa", sum := "ab90a29771ec244fa166b30e95aec3751b9947671a1fb12d6b74ce9461bf3cec", func := "loop.example/g01171/laws.FnExactReadPictureFile", spec := "fnExactReadPictureFile", unfollowed := true, recurses := true, plainKeys := false, apart := false, narrowed := true }
def FnExactReadPictureFileUptoSaid : Prop := fnExactReadPictureFileUptoRow.holds Try.pinned (OpenSpec.upto fnExactReadPictureFileSpec)

end Rows
end Go.Proofs.Ythfmkejdpflpcaa
