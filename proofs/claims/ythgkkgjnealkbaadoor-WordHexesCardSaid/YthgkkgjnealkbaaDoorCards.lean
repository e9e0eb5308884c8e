/-
  DERIVED. GIVEN WITH THE SEED: THE CARDS: each row of YthgkkgjnealkbaaDoorRows.lean that lists a variable, with what it lists TIED to the program's text (the seventh form; the later family's looks); each row that meets fmt, with fmt's text TOLD by the authors' own Lean function (tested against real Go, not proved from fmt's source: count such statements apart). THE CARD IS WHAT COUNTS. Prove the row's statement (the work); the ties are given (YthgkkgjnealkbaaDoorTie.lean); close each card by the builder's one call (the guide's Derived/Test/ToyasCard.lean, 'card_holds'). Laid BY PROGRAM, IN A SANDBOX (cutbox-door.mjs). By AI agents, Wed Nov 11 2026. No macro, syntax, notation, axiom, sorry.
-/
import Derived.Test.YthgkkgjnealkbaaDoorRows
import GoSem.ClaimSeven
namespace Go.Proofs.YthgkkgjnealkbaaDoor
namespace Rows

/-- THE TIED CARD OF 'brazierlaw01.WordBins'. -/
def wordBinsCard : Claim7 := { stood := { row := wordBinsRow, standIns := [], harness := (true, "ad40e3b7cb9d5ecdf2366990f0daebd097e31cc0643ca87e9e46bc8fcb8c2585"), looks := true }, kinds := [], alts := [], laidByText := true, laidKinds := [.data, .data, .data, .sentinel, .sentinel], laidTests := true, laidLooks := .later }
def WordBinsCardSaid : Prop := Claim7.holds Tryd.pinned (.plain (OpenSpec.ofChange wordBinsSpec)) wordBinsCard

/-- THE TIED CARD OF 'brazierlaw01.WordUns'. -/
def wordUnsCard : Claim7 := { stood := { row := wordUnsRow, standIns := [], harness := (true, "ad40e3b7cb9d5ecdf2366990f0daebd097e31cc0643ca87e9e46bc8fcb8c2585"), looks := true }, kinds := [], alts := [], laidByText := true, laidKinds := [.data, .data, .data, .sentinel, .sentinel], laidTests := true, laidLooks := .later }
def WordUnsCardSaid : Prop := Claim7.holds Tryd.pinned (.plain (OpenSpec.ofChange wordUnsSpec)) wordUnsCard

/-- THE TIED CARD OF 'brazierlaw01.WordRing'. -/
def wordRingCard : Claim7 := { stood := { row := wordRingRow, standIns := [], harness := (true, "ad40e3b7cb9d5ecdf2366990f0daebd097e31cc0643ca87e9e46bc8fcb8c2585"), looks := true }, kinds := [], alts := [], laidByText := true, laidKinds := [.data, .data, .data, .sentinel, .sentinel], laidTests := true, laidLooks := .later }
def WordRingCardSaid : Prop := Claim7.holds Tryd.pinned (.plain (OpenSpec.ofChange wordRingSpec)) wordRingCard

/-- THE TIED CARD OF 'brazierlaw01.WordQuotients'. -/
def wordQuotientsCard : Claim7 := { stood := { row := wordQuotientsRow, standIns := [], harness := (true, "ad40e3b7cb9d5ecdf2366990f0daebd097e31cc0643ca87e9e46bc8fcb8c2585"), looks := true }, kinds := [], alts := [], laidByText := true, laidKinds := [.data, .data, .data, .sentinel, .sentinel], laidTests := true, laidLooks := .later }
def WordQuotientsCardSaid : Prop := Claim7.holds Tryd.pinned (.plain (OpenSpec.ofChange wordQuotientsSpec)) wordQuotientsCard

/-- THE TIED CARD OF 'brazierlaw01.WordCompares'. -/
def wordComparesCard : Claim7 := { stood := { row := wordComparesRow, standIns := [], harness := (true, "ad40e3b7cb9d5ecdf2366990f0daebd097e31cc0643ca87e9e46bc8fcb8c2585"), looks := true }, kinds := [], alts := [], laidByText := true, laidKinds := [.data, .data, .data, .sentinel, .sentinel], laidTests := true, laidLooks := .later }
def WordComparesCardSaid : Prop := Claim7.holds Tryd.pinned (.plain (OpenSpec.ofChange wordComparesSpec)) wordComparesCard

/-- THE TIED CARD OF 'brazierlaw01.WordTexts'. -/
def wordTextsCard : Claim7 := { stood := { row := wordTextsRow, standIns := [], harness := (true, "ad40e3b7cb9d5ecdf2366990f0daebd097e31cc0643ca87e9e46bc8fcb8c2585"), looks := true }, kinds := [], alts := [], laidByText := true, laidKinds := [.data, .data, .data, .sentinel, .sentinel], laidTests := true, laidLooks := .later }
def WordTextsCardSaid : Prop := Claim7.holds Tryd.pinned (.plain (OpenSpec.ofChange wordTextsSpec)) wordTextsCard

/-- THE TIED CARD OF 'brazierlaw01.WordBytes'. -/
def wordBytesCard : Claim7 := { stood := { row := wordBytesRow, standIns := [], harness := (true, "ad40e3b7cb9d5ecdf2366990f0daebd097e31cc0643ca87e9e46bc8fcb8c2585"), looks := true }, kinds := [], alts := [], laidByText := true, laidKinds := [.data, .data, .data, .sentinel, .sentinel], laidTests := true, laidLooks := .later }
def WordBytesCardSaid : Prop := Claim7.holds Tryd.pinned (.plain (OpenSpec.ofChange wordBytesSpec)) wordBytesCard

/-- THE TIED CARD OF 'brazierlaw01.WordHexes'. -/
def wordHexesCard : Claim7 := { stood := { row := wordHexesRow, standIns := [], harness := (true, "ad40e3b7cb9d5ecdf2366990f0daebd097e31cc0643ca87e9e46bc8fcb8c2585"), looks := true }, kinds := [], alts := [], laidByText := true, laidKinds := [.data, .data, .data, .sentinel, .sentinel], laidTests := true, laidLooks := .later }
def WordHexesCardSaid : Prop := Claim7.holds Tryd.pinned (.plain (OpenSpec.ofChange wordHexesSpec)) wordHexesCard

/-- THE TIED CARD OF 'brazierlaw01.WordSplits'. -/
def wordSplitsCard : Claim7 := { stood := { row := wordSplitsRow, standIns := [], harness := (true, "ad40e3b7cb9d5ecdf2366990f0daebd097e31cc0643ca87e9e46bc8fcb8c2585"), looks := true }, kinds := [], alts := [], laidByText := true, laidKinds := [.data, .data, .data, .sentinel, .sentinel], laidTests := true, laidLooks := .later }
def WordSplitsCardSaid : Prop := Claim7.holds Tryd.pinned (.plain (OpenSpec.ofChange wordSplitsSpec)) wordSplitsCard

/-- THE SECOND FORM's CARD OF 'brazierlaw01.WordBins'. -/
def wordBinsUptoCard : Claim7 := { stood := { row := wordBinsUptoRow, standIns := [], harness := (true, "ad40e3b7cb9d5ecdf2366990f0daebd097e31cc0643ca87e9e46bc8fcb8c2585"), looks := true }, kinds := [], alts := [], laidByText := true, laidKinds := [.data, .data, .data, .sentinel, .sentinel], laidTests := true, laidLooks := .later }
def WordBinsUptoCardSaid : Prop := Claim7.holds Tryd.pinned (.plain (OpenSpec.upto wordBinsSpec)) wordBinsUptoCard

/-- THE SECOND FORM's CARD OF 'brazierlaw01.WordUns'. -/
def wordUnsUptoCard : Claim7 := { stood := { row := wordUnsUptoRow, standIns := [], harness := (true, "ad40e3b7cb9d5ecdf2366990f0daebd097e31cc0643ca87e9e46bc8fcb8c2585"), looks := true }, kinds := [], alts := [], laidByText := true, laidKinds := [.data, .data, .data, .sentinel, .sentinel], laidTests := true, laidLooks := .later }
def WordUnsUptoCardSaid : Prop := Claim7.holds Tryd.pinned (.plain (OpenSpec.upto wordUnsSpec)) wordUnsUptoCard

/-- THE SECOND FORM's CARD OF 'brazierlaw01.WordRing'. -/
def wordRingUptoCard : Claim7 := { stood := { row := wordRingUptoRow, standIns := [], harness := (true, "ad40e3b7cb9d5ecdf2366990f0daebd097e31cc0643ca87e9e46bc8fcb8c2585"), looks := true }, kinds := [], alts := [], laidByText := true, laidKinds := [.data, .data, .data, .sentinel, .sentinel], laidTests := true, laidLooks := .later }
def WordRingUptoCardSaid : Prop := Claim7.holds Tryd.pinned (.plain (OpenSpec.upto wordRingSpec)) wordRingUptoCard

/-- THE SECOND FORM's CARD OF 'brazierlaw01.WordQuotients'. -/
def wordQuotientsUptoCard : Claim7 := { stood := { row := wordQuotientsUptoRow, standIns := [], harness := (true, "ad40e3b7cb9d5ecdf2366990f0daebd097e31cc0643ca87e9e46bc8fcb8c2585"), looks := true }, kinds := [], alts := [], laidByText := true, laidKinds := [.data, .data, .data, .sentinel, .sentinel], laidTests := true, laidLooks := .later }
def WordQuotientsUptoCardSaid : Prop := Claim7.holds Tryd.pinned (.plain (OpenSpec.upto wordQuotientsSpec)) wordQuotientsUptoCard

/-- THE SECOND FORM's CARD OF 'brazierlaw01.WordCompares'. -/
def wordComparesUptoCard : Claim7 := { stood := { row := wordComparesUptoRow, standIns := [], harness := (true, "ad40e3b7cb9d5ecdf2366990f0daebd097e31cc0643ca87e9e46bc8fcb8c2585"), looks := true }, kinds := [], alts := [], laidByText := true, laidKinds := [.data, .data, .data, .sentinel, .sentinel], laidTests := true, laidLooks := .later }
def WordComparesUptoCardSaid : Prop := Claim7.holds Tryd.pinned (.plain (OpenSpec.upto wordComparesSpec)) wordComparesUptoCard

/-- THE SECOND FORM's CARD OF 'brazierlaw01.WordTexts'. -/
def wordTextsUptoCard : Claim7 := { stood := { row := wordTextsUptoRow, standIns := [], harness := (true, "ad40e3b7cb9d5ecdf2366990f0daebd097e31cc0643ca87e9e46bc8fcb8c2585"), looks := true }, kinds := [], alts := [], laidByText := true, laidKinds := [.data, .data, .data, .sentinel, .sentinel], laidTests := true, laidLooks := .later }
def WordTextsUptoCardSaid : Prop := Claim7.holds Tryd.pinned (.plain (OpenSpec.upto wordTextsSpec)) wordTextsUptoCard

/-- THE SECOND FORM's CARD OF 'brazierlaw01.WordBytes'. -/
def wordBytesUptoCard : Claim7 := { stood := { row := wordBytesUptoRow, standIns := [], harness := (true, "ad40e3b7cb9d5ecdf2366990f0daebd097e31cc0643ca87e9e46bc8fcb8c2585"), looks := true }, kinds := [], alts := [], laidByText := true, laidKinds := [.data, .data, .data, .sentinel, .sentinel], laidTests := true, laidLooks := .later }
def WordBytesUptoCardSaid : Prop := Claim7.holds Tryd.pinned (.plain (OpenSpec.upto wordBytesSpec)) wordBytesUptoCard

/-- THE SECOND FORM's CARD OF 'brazierlaw01.WordHexes'. -/
def wordHexesUptoCard : Claim7 := { stood := { row := wordHexesUptoRow, standIns := [], harness := (true, "ad40e3b7cb9d5ecdf2366990f0daebd097e31cc0643ca87e9e46bc8fcb8c2585"), looks := true }, kinds := [], alts := [], laidByText := true, laidKinds := [.data, .data, .data, .sentinel, .sentinel], laidTests := true, laidLooks := .later }
def WordHexesUptoCardSaid : Prop := Claim7.holds Tryd.pinned (.plain (OpenSpec.upto wordHexesSpec)) wordHexesUptoCard

/-- THE SECOND FORM's CARD OF 'brazierlaw01.WordSplits'. -/
def wordSplitsUptoCard : Claim7 := { stood := { row := wordSplitsUptoRow, standIns := [], harness := (true, "ad40e3b7cb9d5ecdf2366990f0daebd097e31cc0643ca87e9e46bc8fcb8c2585"), looks := true }, kinds := [], alts := [], laidByText := true, laidKinds := [.data, .data, .data, .sentinel, .sentinel], laidTests := true, laidLooks := .later }
def WordSplitsUptoCardSaid : Prop := Claim7.holds Tryd.pinned (.plain (OpenSpec.upto wordSplitsSpec)) wordSplitsUptoCard
end Rows
end Go.Proofs.YthgkkgjnealkbaaDoor
