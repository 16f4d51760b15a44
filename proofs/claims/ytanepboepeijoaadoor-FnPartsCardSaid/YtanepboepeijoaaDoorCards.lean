/-
  DERIVED. GIVEN WITH THE SEED: THE CARDS: each row of YtanepboepeijoaaDoorRows.lean that lists a variable, with what it lists TIED to the program's text (the seventh form; the later family's looks); each row that meets fmt, with fmt's text TOLD by the authors' own Lean function (tested against real Go, not proved from fmt's source: count such statements apart). THE CARD IS WHAT COUNTS. Prove the row's statement (the work); the ties are given (YtanepboepeijoaaDoorTie.lean); close each card by the builder's one call (the guide's Derived/Test/ToyasCard.lean, 'card_holds'). Laid BY PROGRAM, IN A SANDBOX (cutbox-door.mjs). By AI agents, Wed Nov 11 2026. No macro, syntax, notation, axiom, sorry.
-/
import Derived.Test.YtanepboepeijoaaDoorRows
import GoSem.ClaimSeven
namespace Go.Proofs.YtanepboepeijoaaDoor
namespace Rows

/-- THE TIED CARD OF 'laws.FnExactRealText'. -/
def fnExactRealTextCard : Claim7 := { stood := { row := fnExactRealTextRow, standIns := [], harness := (true, "433cde89495aae92e6b620ba1e1fe67bbcf21749c323041ad0b567f634e539ac"), looks := true }, kinds := [], alts := [], laidByText := true, laidKinds := [.data, .data, .data], laidTests := true, laidLooks := .later }
def FnExactRealTextCardSaid : Prop := Claim7.holds Tryd.pinned (.plain (OpenSpec.ofChange fnExactRealTextSpec)) fnExactRealTextCard

/-- THE TIED CARD OF 'laws.FnExactReadReal'. -/
def fnExactReadRealCard : Claim7 := { stood := { row := fnExactReadRealRow, standIns := [], harness := (true, "433cde89495aae92e6b620ba1e1fe67bbcf21749c323041ad0b567f634e539ac"), looks := true }, kinds := [], alts := [], laidByText := true, laidKinds := [.data, .data, .data, .sentinel, .sentinel], laidTests := true, laidLooks := .later }
def FnExactReadRealCardSaid : Prop := Claim7.holds Tryd.pinned (.plain (OpenSpec.ofChange fnExactReadRealSpec)) fnExactReadRealCard

/-- THE TIED CARD OF 'laws.FnExactReadPoint'. -/
def fnExactReadPointCard : Claim7 := { stood := { row := fnExactReadPointRow, standIns := [], harness := (true, "433cde89495aae92e6b620ba1e1fe67bbcf21749c323041ad0b567f634e539ac"), looks := true }, kinds := [], alts := [], laidByText := true, laidKinds := [.data, .data, .data, .sentinel, .sentinel], laidTests := true, laidLooks := .later }
def FnExactReadPointCardSaid : Prop := Claim7.holds Tryd.pinned (.plain (OpenSpec.ofChange fnExactReadPointSpec)) fnExactReadPointCard

/-- THE TIED CARD OF 'laws.FnParts'. -/
def fnPartsCard : Claim7 := { stood := { row := fnPartsRow, standIns := [], harness := (true, "433cde89495aae92e6b620ba1e1fe67bbcf21749c323041ad0b567f634e539ac"), looks := true }, kinds := [], alts := [], laidByText := true, laidKinds := [.data, .data, .data, .sentinel, .sentinel], laidTests := true, laidLooks := .later }
def FnPartsCardSaid : Prop := Claim7.holds Tryd.pinned (.plain (OpenSpec.ofChange fnPartsSpec)) fnPartsCard

/-- THE SECOND FORM's CARD OF 'laws.FnExactRealText'. -/
def fnExactRealTextUptoCard : Claim7 := { stood := { row := fnExactRealTextUptoRow, standIns := [], harness := (true, "433cde89495aae92e6b620ba1e1fe67bbcf21749c323041ad0b567f634e539ac"), looks := true }, kinds := [], alts := [], laidByText := true, laidKinds := [.data, .data, .data], laidTests := true, laidLooks := .later }
def FnExactRealTextUptoCardSaid : Prop := Claim7.holds Tryd.pinned (.plain (OpenSpec.upto fnExactRealTextSpec)) fnExactRealTextUptoCard

/-- THE SECOND FORM's CARD OF 'laws.FnExactReadReal'. -/
def fnExactReadRealUptoCard : Claim7 := { stood := { row := fnExactReadRealUptoRow, standIns := [], harness := (true, "433cde89495aae92e6b620ba1e1fe67bbcf21749c323041ad0b567f634e539ac"), looks := true }, kinds := [], alts := [], laidByText := true, laidKinds := [.data, .data, .data, .sentinel, .sentinel], laidTests := true, laidLooks := .later }
def FnExactReadRealUptoCardSaid : Prop := Claim7.holds Tryd.pinned (.plain (OpenSpec.upto fnExactReadRealSpec)) fnExactReadRealUptoCard

/-- THE SECOND FORM's CARD OF 'laws.FnExactReadPoint'. -/
def fnExactReadPointUptoCard : Claim7 := { stood := { row := fnExactReadPointUptoRow, standIns := [], harness := (true, "433cde89495aae92e6b620ba1e1fe67bbcf21749c323041ad0b567f634e539ac"), looks := true }, kinds := [], alts := [], laidByText := true, laidKinds := [.data, .data, .data, .sentinel, .sentinel], laidTests := true, laidLooks := .later }
def FnExactReadPointUptoCardSaid : Prop := Claim7.holds Tryd.pinned (.plain (OpenSpec.upto fnExactReadPointSpec)) fnExactReadPointUptoCard

/-- THE SECOND FORM's CARD OF 'laws.FnParts'. -/
def fnPartsUptoCard : Claim7 := { stood := { row := fnPartsUptoRow, standIns := [], harness := (true, "433cde89495aae92e6b620ba1e1fe67bbcf21749c323041ad0b567f634e539ac"), looks := true }, kinds := [], alts := [], laidByText := true, laidKinds := [.data, .data, .data, .sentinel, .sentinel], laidTests := true, laidLooks := .later }
def FnPartsUptoCardSaid : Prop := Claim7.holds Tryd.pinned (.plain (OpenSpec.upto fnPartsSpec)) fnPartsUptoCard
end Rows
end Go.Proofs.YtanepboepeijoaaDoor
