/-
  DERIVED. GIVEN WITH THE SEED: THE CARDS: each row of YtligafgbknlofaaDoorRows.lean that lists a variable, with what it lists TIED to the program's text (the seventh form; the later family's looks); each row that meets fmt, with fmt's text TOLD by the authors' own Lean function (tested against real Go, not proved from fmt's source: count such statements apart). THE CARD IS WHAT COUNTS. Prove the row's statement (the work); the ties are given (YtligafgbknlofaaDoorTie.lean); close each card by the builder's one call (the guide's Derived/Test/ToyasCard.lean, 'card_holds'). Laid BY PROGRAM, IN A SANDBOX (cutbox-door.mjs). By AI agents, Wed Nov 11 2026. No macro, syntax, notation, axiom, sorry.
-/
import Derived.Test.YtligafgbknlofaaDoorRows
import GoSem.ClaimSeven
namespace Go.Proofs.YtligafgbknlofaaDoor
namespace Rows

/-- THE TIED CARD OF 'laws.FnExactBrokenFrames'. -/
def fnExactBrokenFramesCard : Claim7 := { stood := { row := fnExactBrokenFramesRow, standIns := [], harness := (true, "3bf71e7b6cb139b5cea960b74454c612624e587c211fd11198981f8f1f59d732"), looks := true }, kinds := [], alts := [], laidByText := true, laidKinds := [.handle], laidTests := true, laidLooks := .later }
def FnExactBrokenFramesCardSaid : Prop := Claim7.holds Tryd.pinned (.plain (OpenSpec.ofChange fnExactBrokenFramesSpec)) fnExactBrokenFramesCard

/-- THE TIED CARD OF 'laws.FnExactMendFrames'. -/
def fnExactMendFramesCard : Claim7 := { stood := { row := fnExactMendFramesRow, standIns := [], harness := (true, "3bf71e7b6cb139b5cea960b74454c612624e587c211fd11198981f8f1f59d732"), looks := true }, kinds := [], alts := [], laidByText := true, laidKinds := [.handle], laidTests := true, laidLooks := .later }
def FnExactMendFramesCardSaid : Prop := Claim7.holds Tryd.pinned (.plain (OpenSpec.ofChange fnExactMendFramesSpec)) fnExactMendFramesCard

/-- THE TIED CARD OF 'laws.FnFrames'. -/
def fnFramesCard : Claim7 := { stood := { row := fnFramesRow, standIns := [], harness := (true, "3bf71e7b6cb139b5cea960b74454c612624e587c211fd11198981f8f1f59d732"), looks := true }, kinds := [], alts := [], laidByText := true, laidKinds := [.handle], laidTests := true, laidLooks := .later }
def FnFramesCardSaid : Prop := Claim7.holds Tryd.pinned (.plain (OpenSpec.ofChange fnFramesSpec)) fnFramesCard

/-- THE SECOND FORM's CARD OF 'laws.FnExactBrokenFrames'. -/
def fnExactBrokenFramesUptoCard : Claim7 := { stood := { row := fnExactBrokenFramesUptoRow, standIns := [], harness := (true, "3bf71e7b6cb139b5cea960b74454c612624e587c211fd11198981f8f1f59d732"), looks := true }, kinds := [], alts := [], laidByText := true, laidKinds := [.handle], laidTests := true, laidLooks := .later }
def FnExactBrokenFramesUptoCardSaid : Prop := Claim7.holds Tryd.pinned (.plain (OpenSpec.upto fnExactBrokenFramesSpec)) fnExactBrokenFramesUptoCard

/-- THE SECOND FORM's CARD OF 'laws.FnExactMendFrames'. -/
def fnExactMendFramesUptoCard : Claim7 := { stood := { row := fnExactMendFramesUptoRow, standIns := [], harness := (true, "3bf71e7b6cb139b5cea960b74454c612624e587c211fd11198981f8f1f59d732"), looks := true }, kinds := [], alts := [], laidByText := true, laidKinds := [.handle], laidTests := true, laidLooks := .later }
def FnExactMendFramesUptoCardSaid : Prop := Claim7.holds Tryd.pinned (.plain (OpenSpec.upto fnExactMendFramesSpec)) fnExactMendFramesUptoCard

/-- THE SECOND FORM's CARD OF 'laws.FnFrames'. -/
def fnFramesUptoCard : Claim7 := { stood := { row := fnFramesUptoRow, standIns := [], harness := (true, "3bf71e7b6cb139b5cea960b74454c612624e587c211fd11198981f8f1f59d732"), looks := true }, kinds := [], alts := [], laidByText := true, laidKinds := [.handle], laidTests := true, laidLooks := .later }
def FnFramesUptoCardSaid : Prop := Claim7.holds Tryd.pinned (.plain (OpenSpec.upto fnFramesSpec)) fnFramesUptoCard
end Rows
end Go.Proofs.YtligafgbknlofaaDoor
