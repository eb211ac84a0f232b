/-
  DERIVED. GIVEN WITH THE SEED: THE CARDS: each row of YtbmhjmdbolnbaaaDoorRows.lean that lists a variable, with what it lists TIED to the program's text (the seventh form; the later family's looks); each row that meets fmt, with fmt's text TOLD by the authors' own Lean function (tested against real Go, not proved from fmt's source: count such statements apart). THE CARD IS WHAT COUNTS. Prove the row's statement (the work); the ties are given (YtbmhjmdbolnbaaaDoorTie.lean); close each card by the builder's one call (the guide's Derived/Test/ToyasCard.lean, 'card_holds'). Laid BY PROGRAM, IN A SANDBOX (cutbox-door.mjs). By AI agents, Wed Nov 11 2026. No macro, syntax, notation, axiom, sorry.
-/
import Derived.Test.YtbmhjmdbolnbaaaDoorRows
import GoSem.ClaimSeven
namespace Go.Proofs.YtbmhjmdbolnbaaaDoor
namespace Rows

/-- THE TIED CARD OF 'slipwaylaw01.SemverParses'. -/
def semverParsesCard : Claim7 := { stood := { row := semverParsesRow, standIns := [], harness := (true, "63c91b99c6cf1405f323eac13b02d561ea6996b229b1bf2aa3a4926a247b0680"), looks := true }, kinds := [], alts := [], laidByText := true, laidKinds := [.data, .data, .data, .sentinel, .sentinel], laidTests := true, laidLooks := .later }
def SemverParsesCardSaid : Prop := Claim7.holds Tryd.pinned (.plain (OpenSpec.ofChange semverParsesSpec)) semverParsesCard

/-- THE TIED CARD OF 'slipwaylaw01.SemverBack'. -/
def semverBackCard : Claim7 := { stood := { row := semverBackRow, standIns := [], harness := (true, "63c91b99c6cf1405f323eac13b02d561ea6996b229b1bf2aa3a4926a247b0680"), looks := true }, kinds := [], alts := [], laidByText := true, laidKinds := [.data, .data, .data, .sentinel, .sentinel], laidTests := true, laidLooks := .later }
def SemverBackCardSaid : Prop := Claim7.holds Tryd.pinned (.plain (OpenSpec.ofChange semverBackSpec)) semverBackCard

/-- THE TIED CARD OF 'slipwaylaw01.SemverCompares'. -/
def semverComparesCard : Claim7 := { stood := { row := semverComparesRow, standIns := [], harness := (true, "63c91b99c6cf1405f323eac13b02d561ea6996b229b1bf2aa3a4926a247b0680"), looks := true }, kinds := [], alts := [], laidByText := true, laidKinds := [.data, .data, .data, .sentinel, .sentinel], laidTests := true, laidLooks := .later }
def SemverComparesCardSaid : Prop := Claim7.holds Tryd.pinned (.plain (OpenSpec.ofChange semverComparesSpec)) semverComparesCard

/-- THE TIED CARD OF 'slipwaylaw01.SemverOrder'. -/
def semverOrderCard : Claim7 := { stood := { row := semverOrderRow, standIns := [], harness := (true, "63c91b99c6cf1405f323eac13b02d561ea6996b229b1bf2aa3a4926a247b0680"), looks := true }, kinds := [], alts := [], laidByText := true, laidKinds := [.data, .data, .data, .sentinel, .sentinel], laidTests := true, laidLooks := .later }
def SemverOrderCardSaid : Prop := Claim7.holds Tryd.pinned (.plain (OpenSpec.ofChange semverOrderSpec)) semverOrderCard

/-- THE TIED CARD OF 'slipwaylaw01.SemverBumps'. -/
def semverBumpsCard : Claim7 := { stood := { row := semverBumpsRow, standIns := [], harness := (true, "63c91b99c6cf1405f323eac13b02d561ea6996b229b1bf2aa3a4926a247b0680"), looks := true }, kinds := [], alts := [], laidByText := true, laidKinds := [.data, .data, .data, .sentinel, .sentinel], laidTests := true, laidLooks := .later }
def SemverBumpsCardSaid : Prop := Claim7.holds Tryd.pinned (.plain (OpenSpec.ofChange semverBumpsSpec)) semverBumpsCard

/-- THE TIED CARD OF 'slipwaylaw01.SemverTexts'. -/
def semverTextsCard : Claim7 := { stood := { row := semverTextsRow, standIns := [], harness := (true, "63c91b99c6cf1405f323eac13b02d561ea6996b229b1bf2aa3a4926a247b0680"), looks := true }, kinds := [], alts := [], laidByText := true, laidKinds := [.data, .data, .data, .sentinel, .sentinel], laidTests := true, laidLooks := .later }
def SemverTextsCardSaid : Prop := Claim7.holds Tryd.pinned (.plain (OpenSpec.ofChange semverTextsSpec)) semverTextsCard

/-- THE TIED CARD OF 'slipwaylaw01.SemverPres'. -/
def semverPresCard : Claim7 := { stood := { row := semverPresRow, standIns := [], harness := (true, "63c91b99c6cf1405f323eac13b02d561ea6996b229b1bf2aa3a4926a247b0680"), looks := true }, kinds := [], alts := [], laidByText := true, laidKinds := [.data, .data, .data, .sentinel, .sentinel], laidTests := true, laidLooks := .later }
def SemverPresCardSaid : Prop := Claim7.holds Tryd.pinned (.plain (OpenSpec.ofChange semverPresSpec)) semverPresCard

/-- THE TIED CARD OF 'slipwaylaw01.SemverNumbers'. -/
def semverNumbersCard : Claim7 := { stood := { row := semverNumbersRow, standIns := [], harness := (true, "63c91b99c6cf1405f323eac13b02d561ea6996b229b1bf2aa3a4926a247b0680"), looks := true }, kinds := [], alts := [], laidByText := true, laidKinds := [.data, .data, .data, .sentinel, .sentinel], laidTests := true, laidLooks := .later }
def SemverNumbersCardSaid : Prop := Claim7.holds Tryd.pinned (.plain (OpenSpec.ofChange semverNumbersSpec)) semverNumbersCard

/-- THE TIED CARD OF 'slipwaylaw02.RangesParses'. -/
def rangesParsesCard : Claim7 := { stood := { row := rangesParsesRow, standIns := [], harness := (true, "63c91b99c6cf1405f323eac13b02d561ea6996b229b1bf2aa3a4926a247b0680"), looks := true }, kinds := [], alts := [], laidByText := true, laidKinds := [.data, .data, .data, .data, .sentinel, .sentinel, .data, .pinned], laidTests := true, laidLooks := .later }
def RangesParsesCardSaid : Prop := Claim7.holds Tryd.pinned (.plain (OpenSpec.ofChange rangesParsesSpec)) rangesParsesCard

/-- THE TIED CARD OF 'slipwaylaw02.RangesHas'. -/
def rangesHasCard : Claim7 := { stood := { row := rangesHasRow, standIns := [], harness := (true, "63c91b99c6cf1405f323eac13b02d561ea6996b229b1bf2aa3a4926a247b0680"), looks := true }, kinds := [], alts := [], laidByText := true, laidKinds := [.data, .data, .data, .data, .sentinel, .sentinel, .data, .pinned], laidTests := true, laidLooks := .later }
def RangesHasCardSaid : Prop := Claim7.holds Tryd.pinned (.plain (OpenSpec.ofChange rangesHasSpec)) rangesHasCard

/-- THE TIED CARD OF 'slipwaylaw02.RangesPlain'. -/
def rangesPlainCard : Claim7 := { stood := { row := rangesPlainRow, standIns := [], harness := (true, "63c91b99c6cf1405f323eac13b02d561ea6996b229b1bf2aa3a4926a247b0680"), looks := true }, kinds := [], alts := [], laidByText := true, laidKinds := [.data, .data, .data, .data, .sentinel, .sentinel, .data, .pinned], laidTests := true, laidLooks := .later }
def RangesPlainCardSaid : Prop := Claim7.holds Tryd.pinned (.plain (OpenSpec.ofChange rangesPlainSpec)) rangesPlainCard

/-- THE TIED CARD OF 'slipwaylaw02.RangesAnd'. -/
def rangesAndCard : Claim7 := { stood := { row := rangesAndRow, standIns := [], harness := (true, "63c91b99c6cf1405f323eac13b02d561ea6996b229b1bf2aa3a4926a247b0680"), looks := true }, kinds := [], alts := [], laidByText := true, laidKinds := [.data, .data, .data, .data, .sentinel, .sentinel, .data, .pinned], laidTests := true, laidLooks := .later }
def RangesAndCardSaid : Prop := Claim7.holds Tryd.pinned (.plain (OpenSpec.ofChange rangesAndSpec)) rangesAndCard

/-- THE TIED CARD OF 'slipwaylaw02.RangesCaret'. -/
def rangesCaretCard : Claim7 := { stood := { row := rangesCaretRow, standIns := [], harness := (true, "63c91b99c6cf1405f323eac13b02d561ea6996b229b1bf2aa3a4926a247b0680"), looks := true }, kinds := [], alts := [], laidByText := true, laidKinds := [.data, .data, .data, .data, .sentinel, .sentinel, .data, .pinned], laidTests := true, laidLooks := .later }
def RangesCaretCardSaid : Prop := Claim7.holds Tryd.pinned (.plain (OpenSpec.ofChange rangesCaretSpec)) rangesCaretCard

/-- THE TIED CARD OF 'slipwaylaw02.RangesParts'. -/
def rangesPartsCard : Claim7 := { stood := { row := rangesPartsRow, standIns := [], harness := (true, "63c91b99c6cf1405f323eac13b02d561ea6996b229b1bf2aa3a4926a247b0680"), looks := true }, kinds := [], alts := [], laidByText := true, laidKinds := [.data, .data, .data, .data, .sentinel, .sentinel, .data, .pinned], laidTests := true, laidLooks := .later }
def RangesPartsCardSaid : Prop := Claim7.holds Tryd.pinned (.plain (OpenSpec.ofChange rangesPartsSpec)) rangesPartsCard

/-- THE TIED CARD OF 'slipwaylaw02.RangesLists'. -/
def rangesListsCard : Claim7 := { stood := { row := rangesListsRow, standIns := [], harness := (true, "63c91b99c6cf1405f323eac13b02d561ea6996b229b1bf2aa3a4926a247b0680"), looks := true }, kinds := [], alts := [], laidByText := true, laidKinds := [.data, .data, .data, .data, .sentinel, .sentinel, .data, .pinned], laidTests := true, laidLooks := .later }
def RangesListsCardSaid : Prop := Claim7.holds Tryd.pinned (.plain (OpenSpec.ofChange rangesListsSpec)) rangesListsCard

/-- THE TIED CARD OF 'slipwaylaw02.RangesTilde'. -/
def rangesTildeCard : Claim7 := { stood := { row := rangesTildeRow, standIns := [], harness := (true, "63c91b99c6cf1405f323eac13b02d561ea6996b229b1bf2aa3a4926a247b0680"), looks := true }, kinds := [], alts := [], laidByText := true, laidKinds := [.data, .data, .data, .data, .sentinel, .sentinel, .data, .pinned], laidTests := true, laidLooks := .later }
def RangesTildeCardSaid : Prop := Claim7.holds Tryd.pinned (.plain (OpenSpec.ofChange rangesTildeSpec)) rangesTildeCard

/-- THE SECOND FORM's CARD OF 'slipwaylaw01.SemverParses'. -/
def semverParsesUptoCard : Claim7 := { stood := { row := semverParsesUptoRow, standIns := [], harness := (true, "63c91b99c6cf1405f323eac13b02d561ea6996b229b1bf2aa3a4926a247b0680"), looks := true }, kinds := [], alts := [], laidByText := true, laidKinds := [.data, .data, .data, .sentinel, .sentinel], laidTests := true, laidLooks := .later }
def SemverParsesUptoCardSaid : Prop := Claim7.holds Tryd.pinned (.plain (OpenSpec.upto semverParsesSpec)) semverParsesUptoCard

/-- THE SECOND FORM's CARD OF 'slipwaylaw01.SemverBack'. -/
def semverBackUptoCard : Claim7 := { stood := { row := semverBackUptoRow, standIns := [], harness := (true, "63c91b99c6cf1405f323eac13b02d561ea6996b229b1bf2aa3a4926a247b0680"), looks := true }, kinds := [], alts := [], laidByText := true, laidKinds := [.data, .data, .data, .sentinel, .sentinel], laidTests := true, laidLooks := .later }
def SemverBackUptoCardSaid : Prop := Claim7.holds Tryd.pinned (.plain (OpenSpec.upto semverBackSpec)) semverBackUptoCard

/-- THE SECOND FORM's CARD OF 'slipwaylaw01.SemverCompares'. -/
def semverComparesUptoCard : Claim7 := { stood := { row := semverComparesUptoRow, standIns := [], harness := (true, "63c91b99c6cf1405f323eac13b02d561ea6996b229b1bf2aa3a4926a247b0680"), looks := true }, kinds := [], alts := [], laidByText := true, laidKinds := [.data, .data, .data, .sentinel, .sentinel], laidTests := true, laidLooks := .later }
def SemverComparesUptoCardSaid : Prop := Claim7.holds Tryd.pinned (.plain (OpenSpec.upto semverComparesSpec)) semverComparesUptoCard

/-- THE SECOND FORM's CARD OF 'slipwaylaw01.SemverOrder'. -/
def semverOrderUptoCard : Claim7 := { stood := { row := semverOrderUptoRow, standIns := [], harness := (true, "63c91b99c6cf1405f323eac13b02d561ea6996b229b1bf2aa3a4926a247b0680"), looks := true }, kinds := [], alts := [], laidByText := true, laidKinds := [.data, .data, .data, .sentinel, .sentinel], laidTests := true, laidLooks := .later }
def SemverOrderUptoCardSaid : Prop := Claim7.holds Tryd.pinned (.plain (OpenSpec.upto semverOrderSpec)) semverOrderUptoCard

/-- THE SECOND FORM's CARD OF 'slipwaylaw01.SemverBumps'. -/
def semverBumpsUptoCard : Claim7 := { stood := { row := semverBumpsUptoRow, standIns := [], harness := (true, "63c91b99c6cf1405f323eac13b02d561ea6996b229b1bf2aa3a4926a247b0680"), looks := true }, kinds := [], alts := [], laidByText := true, laidKinds := [.data, .data, .data, .sentinel, .sentinel], laidTests := true, laidLooks := .later }
def SemverBumpsUptoCardSaid : Prop := Claim7.holds Tryd.pinned (.plain (OpenSpec.upto semverBumpsSpec)) semverBumpsUptoCard

/-- THE SECOND FORM's CARD OF 'slipwaylaw01.SemverTexts'. -/
def semverTextsUptoCard : Claim7 := { stood := { row := semverTextsUptoRow, standIns := [], harness := (true, "63c91b99c6cf1405f323eac13b02d561ea6996b229b1bf2aa3a4926a247b0680"), looks := true }, kinds := [], alts := [], laidByText := true, laidKinds := [.data, .data, .data, .sentinel, .sentinel], laidTests := true, laidLooks := .later }
def SemverTextsUptoCardSaid : Prop := Claim7.holds Tryd.pinned (.plain (OpenSpec.upto semverTextsSpec)) semverTextsUptoCard

/-- THE SECOND FORM's CARD OF 'slipwaylaw01.SemverPres'. -/
def semverPresUptoCard : Claim7 := { stood := { row := semverPresUptoRow, standIns := [], harness := (true, "63c91b99c6cf1405f323eac13b02d561ea6996b229b1bf2aa3a4926a247b0680"), looks := true }, kinds := [], alts := [], laidByText := true, laidKinds := [.data, .data, .data, .sentinel, .sentinel], laidTests := true, laidLooks := .later }
def SemverPresUptoCardSaid : Prop := Claim7.holds Tryd.pinned (.plain (OpenSpec.upto semverPresSpec)) semverPresUptoCard

/-- THE SECOND FORM's CARD OF 'slipwaylaw01.SemverNumbers'. -/
def semverNumbersUptoCard : Claim7 := { stood := { row := semverNumbersUptoRow, standIns := [], harness := (true, "63c91b99c6cf1405f323eac13b02d561ea6996b229b1bf2aa3a4926a247b0680"), looks := true }, kinds := [], alts := [], laidByText := true, laidKinds := [.data, .data, .data, .sentinel, .sentinel], laidTests := true, laidLooks := .later }
def SemverNumbersUptoCardSaid : Prop := Claim7.holds Tryd.pinned (.plain (OpenSpec.upto semverNumbersSpec)) semverNumbersUptoCard

/-- THE SECOND FORM's CARD OF 'slipwaylaw02.RangesParses'. -/
def rangesParsesUptoCard : Claim7 := { stood := { row := rangesParsesUptoRow, standIns := [], harness := (true, "63c91b99c6cf1405f323eac13b02d561ea6996b229b1bf2aa3a4926a247b0680"), looks := true }, kinds := [], alts := [], laidByText := true, laidKinds := [.data, .data, .data, .data, .sentinel, .sentinel, .data, .pinned], laidTests := true, laidLooks := .later }
def RangesParsesUptoCardSaid : Prop := Claim7.holds Tryd.pinned (.plain (OpenSpec.upto rangesParsesSpec)) rangesParsesUptoCard

/-- THE SECOND FORM's CARD OF 'slipwaylaw02.RangesHas'. -/
def rangesHasUptoCard : Claim7 := { stood := { row := rangesHasUptoRow, standIns := [], harness := (true, "63c91b99c6cf1405f323eac13b02d561ea6996b229b1bf2aa3a4926a247b0680"), looks := true }, kinds := [], alts := [], laidByText := true, laidKinds := [.data, .data, .data, .data, .sentinel, .sentinel, .data, .pinned], laidTests := true, laidLooks := .later }
def RangesHasUptoCardSaid : Prop := Claim7.holds Tryd.pinned (.plain (OpenSpec.upto rangesHasSpec)) rangesHasUptoCard

/-- THE SECOND FORM's CARD OF 'slipwaylaw02.RangesPlain'. -/
def rangesPlainUptoCard : Claim7 := { stood := { row := rangesPlainUptoRow, standIns := [], harness := (true, "63c91b99c6cf1405f323eac13b02d561ea6996b229b1bf2aa3a4926a247b0680"), looks := true }, kinds := [], alts := [], laidByText := true, laidKinds := [.data, .data, .data, .data, .sentinel, .sentinel, .data, .pinned], laidTests := true, laidLooks := .later }
def RangesPlainUptoCardSaid : Prop := Claim7.holds Tryd.pinned (.plain (OpenSpec.upto rangesPlainSpec)) rangesPlainUptoCard

/-- THE SECOND FORM's CARD OF 'slipwaylaw02.RangesAnd'. -/
def rangesAndUptoCard : Claim7 := { stood := { row := rangesAndUptoRow, standIns := [], harness := (true, "63c91b99c6cf1405f323eac13b02d561ea6996b229b1bf2aa3a4926a247b0680"), looks := true }, kinds := [], alts := [], laidByText := true, laidKinds := [.data, .data, .data, .data, .sentinel, .sentinel, .data, .pinned], laidTests := true, laidLooks := .later }
def RangesAndUptoCardSaid : Prop := Claim7.holds Tryd.pinned (.plain (OpenSpec.upto rangesAndSpec)) rangesAndUptoCard

/-- THE SECOND FORM's CARD OF 'slipwaylaw02.RangesCaret'. -/
def rangesCaretUptoCard : Claim7 := { stood := { row := rangesCaretUptoRow, standIns := [], harness := (true, "63c91b99c6cf1405f323eac13b02d561ea6996b229b1bf2aa3a4926a247b0680"), looks := true }, kinds := [], alts := [], laidByText := true, laidKinds := [.data, .data, .data, .data, .sentinel, .sentinel, .data, .pinned], laidTests := true, laidLooks := .later }
def RangesCaretUptoCardSaid : Prop := Claim7.holds Tryd.pinned (.plain (OpenSpec.upto rangesCaretSpec)) rangesCaretUptoCard

/-- THE SECOND FORM's CARD OF 'slipwaylaw02.RangesParts'. -/
def rangesPartsUptoCard : Claim7 := { stood := { row := rangesPartsUptoRow, standIns := [], harness := (true, "63c91b99c6cf1405f323eac13b02d561ea6996b229b1bf2aa3a4926a247b0680"), looks := true }, kinds := [], alts := [], laidByText := true, laidKinds := [.data, .data, .data, .data, .sentinel, .sentinel, .data, .pinned], laidTests := true, laidLooks := .later }
def RangesPartsUptoCardSaid : Prop := Claim7.holds Tryd.pinned (.plain (OpenSpec.upto rangesPartsSpec)) rangesPartsUptoCard

/-- THE SECOND FORM's CARD OF 'slipwaylaw02.RangesLists'. -/
def rangesListsUptoCard : Claim7 := { stood := { row := rangesListsUptoRow, standIns := [], harness := (true, "63c91b99c6cf1405f323eac13b02d561ea6996b229b1bf2aa3a4926a247b0680"), looks := true }, kinds := [], alts := [], laidByText := true, laidKinds := [.data, .data, .data, .data, .sentinel, .sentinel, .data, .pinned], laidTests := true, laidLooks := .later }
def RangesListsUptoCardSaid : Prop := Claim7.holds Tryd.pinned (.plain (OpenSpec.upto rangesListsSpec)) rangesListsUptoCard

/-- THE SECOND FORM's CARD OF 'slipwaylaw02.RangesTilde'. -/
def rangesTildeUptoCard : Claim7 := { stood := { row := rangesTildeUptoRow, standIns := [], harness := (true, "63c91b99c6cf1405f323eac13b02d561ea6996b229b1bf2aa3a4926a247b0680"), looks := true }, kinds := [], alts := [], laidByText := true, laidKinds := [.data, .data, .data, .data, .sentinel, .sentinel, .data, .pinned], laidTests := true, laidLooks := .later }
def RangesTildeUptoCardSaid : Prop := Claim7.holds Tryd.pinned (.plain (OpenSpec.upto rangesTildeSpec)) rangesTildeUptoCard
end Rows
end Go.Proofs.YtbmhjmdbolnbaaaDoor
