/-
  DERIVED. GIVEN WITH THE SEED: THE CARDS: each row of YtpnbbbhbbnemlaaGreatDoorRows.lean that lists a variable, with what it lists TIED to the program's text (the seventh form; the later family's looks); each row that meets fmt, with fmt's text TOLD by the authors' own Lean function (tested against real Go, not proved from fmt's source: count such statements apart). THE CARD IS WHAT COUNTS. Prove the row's statement (the work); the ties are given (YtpnbbbhbbnemlaaGreatDoorTie.lean); close each card by the builder's one call (the guide's Derived/Test/ToyasCard.lean, 'card_holds'). Laid BY PROGRAM, IN A SANDBOX (cutbox-door.mjs). By AI agents, Wed Nov 11 2026. No macro, syntax, notation, axiom, sorry.
-/
import Derived.Test.YtpnbbbhbbnemlaaGreatDoorRows
import GoSem.ClaimSeven
namespace Go.Proofs.YtpnbbbhbbnemlaaGreatDoor
namespace Rows

/-- THE TIED CARD OF 'slipwaylaw02.RangesBack'. -/
def rangesBackCard : Claim7 := { stood := { row := rangesBackRow, standIns := [], harness := (true, "5908de546dead90ed93f678a86ce784a014c1d3ab547b75e413e6d9ab5a09956"), looks := true }, kinds := [], alts := [], laidByText := true, laidKinds := [.data, .data, .data, .data, .sentinel, .sentinel, .data, .pinned], laidTests := true, laidLooks := .later }
def RangesBackCardSaid : Prop := Claim7.holds Tryz.pinned (.plain (OpenSpec.ofChange rangesBackSpec)) rangesBackCard

/-- THE TIED CARD OF 'slipwaylaw08.ManifestParses'. -/
def manifestParsesCard : Claim7 := { stood := { row := manifestParsesRow, standIns := [], harness := (true, "5908de546dead90ed93f678a86ce784a014c1d3ab547b75e413e6d9ab5a09956"), looks := true }, kinds := [], alts := [], laidByText := true, laidKinds := [.data, .data, .data, .data, .sentinel, .sentinel, .data, .pinned], laidTests := true, laidLooks := .later }
def ManifestParsesCardSaid : Prop := Claim7.holds Tryz.pinned (.plain (OpenSpec.ofChange manifestParsesSpec)) manifestParsesCard

/-- THE TIED CARD OF 'slipwaylaw08.ManifestTexts'. -/
def manifestTextsCard : Claim7 := { stood := { row := manifestTextsRow, standIns := [], harness := (true, "5908de546dead90ed93f678a86ce784a014c1d3ab547b75e413e6d9ab5a09956"), looks := true }, kinds := [], alts := [], laidByText := true, laidKinds := [.data, .data, .data, .data, .sentinel, .sentinel, .data, .pinned], laidTests := true, laidLooks := .later }
def ManifestTextsCardSaid : Prop := Claim7.holds Tryz.pinned (.plain (OpenSpec.ofChange manifestTextsSpec)) manifestTextsCard

/-- THE TIED CARD OF 'slipwaylaw08.ManifestCuts'. -/
def manifestCutsCard : Claim7 := { stood := { row := manifestCutsRow, standIns := [], harness := (true, "5908de546dead90ed93f678a86ce784a014c1d3ab547b75e413e6d9ab5a09956"), looks := true }, kinds := [], alts := [], laidByText := true, laidKinds := [.data, .data, .data, .data, .sentinel, .sentinel, .data, .pinned], laidTests := true, laidLooks := .later }
def ManifestCutsCardSaid : Prop := Claim7.holds Tryz.pinned (.plain (OpenSpec.ofChange manifestCutsSpec)) manifestCutsCard

/-- THE TIED CARD OF 'slipwaylaw08.ManifestLines'. -/
def manifestLinesCard : Claim7 := { stood := { row := manifestLinesRow, standIns := [], harness := (true, "5908de546dead90ed93f678a86ce784a014c1d3ab547b75e413e6d9ab5a09956"), looks := true }, kinds := [], alts := [], laidByText := true, laidKinds := [.data, .data, .data, .data, .sentinel, .sentinel, .data, .pinned], laidTests := true, laidLooks := .later }
def ManifestLinesCardSaid : Prop := Claim7.holds Tryz.pinned (.plain (OpenSpec.ofChange manifestLinesSpec)) manifestLinesCard

/-- THE TIED CARD OF 'slipwaylaw08.ManifestJoins'. -/
def manifestJoinsCard : Claim7 := { stood := { row := manifestJoinsRow, standIns := [], harness := (true, "5908de546dead90ed93f678a86ce784a014c1d3ab547b75e413e6d9ab5a09956"), looks := true }, kinds := [], alts := [], laidByText := true, laidKinds := [.data, .data, .data, .data, .sentinel, .sentinel, .data, .pinned], laidTests := true, laidLooks := .later }
def ManifestJoinsCardSaid : Prop := Claim7.holds Tryz.pinned (.plain (OpenSpec.ofChange manifestJoinsSpec)) manifestJoinsCard

/-- THE TIED CARD OF 'slipwaylaw08.ManifestTwice'. -/
def manifestTwiceCard : Claim7 := { stood := { row := manifestTwiceRow, standIns := [], harness := (true, "5908de546dead90ed93f678a86ce784a014c1d3ab547b75e413e6d9ab5a09956"), looks := true }, kinds := [], alts := [], laidByText := true, laidKinds := [.data, .data, .data, .data, .sentinel, .sentinel, .data, .pinned], laidTests := true, laidLooks := .later }
def ManifestTwiceCardSaid : Prop := Claim7.holds Tryz.pinned (.plain (OpenSpec.ofChange manifestTwiceSpec)) manifestTwiceCard

/-- THE SECOND FORM's CARD OF 'slipwaylaw02.RangesBack'. -/
def rangesBackUptoCard : Claim7 := { stood := { row := rangesBackUptoRow, standIns := [], harness := (true, "5908de546dead90ed93f678a86ce784a014c1d3ab547b75e413e6d9ab5a09956"), looks := true }, kinds := [], alts := [], laidByText := true, laidKinds := [.data, .data, .data, .data, .sentinel, .sentinel, .data, .pinned], laidTests := true, laidLooks := .later }
def RangesBackUptoCardSaid : Prop := Claim7.holds Tryz.pinned (.plain (OpenSpec.upto rangesBackSpec)) rangesBackUptoCard

/-- THE SECOND FORM's CARD OF 'slipwaylaw08.ManifestParses'. -/
def manifestParsesUptoCard : Claim7 := { stood := { row := manifestParsesUptoRow, standIns := [], harness := (true, "5908de546dead90ed93f678a86ce784a014c1d3ab547b75e413e6d9ab5a09956"), looks := true }, kinds := [], alts := [], laidByText := true, laidKinds := [.data, .data, .data, .data, .sentinel, .sentinel, .data, .pinned], laidTests := true, laidLooks := .later }
def ManifestParsesUptoCardSaid : Prop := Claim7.holds Tryz.pinned (.plain (OpenSpec.upto manifestParsesSpec)) manifestParsesUptoCard

/-- THE SECOND FORM's CARD OF 'slipwaylaw08.ManifestTexts'. -/
def manifestTextsUptoCard : Claim7 := { stood := { row := manifestTextsUptoRow, standIns := [], harness := (true, "5908de546dead90ed93f678a86ce784a014c1d3ab547b75e413e6d9ab5a09956"), looks := true }, kinds := [], alts := [], laidByText := true, laidKinds := [.data, .data, .data, .data, .sentinel, .sentinel, .data, .pinned], laidTests := true, laidLooks := .later }
def ManifestTextsUptoCardSaid : Prop := Claim7.holds Tryz.pinned (.plain (OpenSpec.upto manifestTextsSpec)) manifestTextsUptoCard

/-- THE SECOND FORM's CARD OF 'slipwaylaw08.ManifestCuts'. -/
def manifestCutsUptoCard : Claim7 := { stood := { row := manifestCutsUptoRow, standIns := [], harness := (true, "5908de546dead90ed93f678a86ce784a014c1d3ab547b75e413e6d9ab5a09956"), looks := true }, kinds := [], alts := [], laidByText := true, laidKinds := [.data, .data, .data, .data, .sentinel, .sentinel, .data, .pinned], laidTests := true, laidLooks := .later }
def ManifestCutsUptoCardSaid : Prop := Claim7.holds Tryz.pinned (.plain (OpenSpec.upto manifestCutsSpec)) manifestCutsUptoCard

/-- THE SECOND FORM's CARD OF 'slipwaylaw08.ManifestLines'. -/
def manifestLinesUptoCard : Claim7 := { stood := { row := manifestLinesUptoRow, standIns := [], harness := (true, "5908de546dead90ed93f678a86ce784a014c1d3ab547b75e413e6d9ab5a09956"), looks := true }, kinds := [], alts := [], laidByText := true, laidKinds := [.data, .data, .data, .data, .sentinel, .sentinel, .data, .pinned], laidTests := true, laidLooks := .later }
def ManifestLinesUptoCardSaid : Prop := Claim7.holds Tryz.pinned (.plain (OpenSpec.upto manifestLinesSpec)) manifestLinesUptoCard

/-- THE SECOND FORM's CARD OF 'slipwaylaw08.ManifestJoins'. -/
def manifestJoinsUptoCard : Claim7 := { stood := { row := manifestJoinsUptoRow, standIns := [], harness := (true, "5908de546dead90ed93f678a86ce784a014c1d3ab547b75e413e6d9ab5a09956"), looks := true }, kinds := [], alts := [], laidByText := true, laidKinds := [.data, .data, .data, .data, .sentinel, .sentinel, .data, .pinned], laidTests := true, laidLooks := .later }
def ManifestJoinsUptoCardSaid : Prop := Claim7.holds Tryz.pinned (.plain (OpenSpec.upto manifestJoinsSpec)) manifestJoinsUptoCard

/-- THE SECOND FORM's CARD OF 'slipwaylaw08.ManifestTwice'. -/
def manifestTwiceUptoCard : Claim7 := { stood := { row := manifestTwiceUptoRow, standIns := [], harness := (true, "5908de546dead90ed93f678a86ce784a014c1d3ab547b75e413e6d9ab5a09956"), looks := true }, kinds := [], alts := [], laidByText := true, laidKinds := [.data, .data, .data, .data, .sentinel, .sentinel, .data, .pinned], laidTests := true, laidLooks := .later }
def ManifestTwiceUptoCardSaid : Prop := Claim7.holds Tryz.pinned (.plain (OpenSpec.upto manifestTwiceSpec)) manifestTwiceUptoCard
end Rows
end Go.Proofs.YtpnbbbhbbnemlaaGreatDoor
