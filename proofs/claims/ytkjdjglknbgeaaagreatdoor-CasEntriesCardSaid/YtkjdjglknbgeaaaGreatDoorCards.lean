/-
  DERIVED. GIVEN WITH THE SEED: THE CARDS: each row of YtkjdjglknbgeaaaGreatDoorRows.lean that lists a variable, with what it lists TIED to the program's text (the seventh form; the later family's looks); each row that meets fmt, with fmt's text TOLD by the authors' own Lean function (tested against real Go, not proved from fmt's source: count such statements apart). THE CARD IS WHAT COUNTS. Prove the row's statement (the work); the ties are given (YtkjdjglknbgeaaaGreatDoorTie.lean); close each card by the builder's one call (the guide's Derived/Test/ToyasCard.lean, 'card_holds'). Laid BY PROGRAM, IN A SANDBOX (cutbox-door.mjs). By AI agents, Wed Nov 11 2026. No macro, syntax, notation, axiom, sorry.
-/
import Derived.Test.YtkjdjglknbgeaaaGreatDoorRows
import GoSem.ClaimSeven
namespace Go.Proofs.YtkjdjglknbgeaaaGreatDoor
namespace Rows

/-- THE TIED CARD OF 'brazierlaw06.CasEntries'. -/
def casEntriesCard : Claim7 := { stood := { row := casEntriesRow, standIns := [], harness := (true, "991fb57e758d81d4edb6d03d2788fc270bd0fbfd0c0938375c69672e4928de7d"), looks := false }, kinds := [], alts := [], laidByText := true, laidKinds := [.data, .data, .data, .data], laidTests := true, laidLooks := .later }
def CasEntriesCardSaid : Prop := Claim7.holds Tryz.pinned (.plain (OpenSpec.ofChange casEntriesSpec)) casEntriesCard

/-- THE TIED CARD OF 'brazierlaw06.CasPlays'. -/
def casPlaysCard : Claim7 := { stood := { row := casPlaysRow, standIns := [], harness := (true, "991fb57e758d81d4edb6d03d2788fc270bd0fbfd0c0938375c69672e4928de7d"), looks := false }, kinds := [], alts := [], laidByText := true, laidKinds := [.data, .data, .data, .data], laidTests := true, laidLooks := .later }
def CasPlaysCardSaid : Prop := Claim7.holds Tryz.pinned (.plain (OpenSpec.ofChange casPlaysSpec)) casPlaysCard

/-- THE TIED CARD OF 'brazierlaw06.CasCrashes'. -/
def casCrashesCard : Claim7 := { stood := { row := casCrashesRow, standIns := [], harness := (true, "991fb57e758d81d4edb6d03d2788fc270bd0fbfd0c0938375c69672e4928de7d"), looks := false }, kinds := [], alts := [], laidByText := true, laidKinds := [.data, .data, .data, .data], laidTests := true, laidLooks := .later }
def CasCrashesCardSaid : Prop := Claim7.holds Tryz.pinned (.plain (OpenSpec.ofChange casCrashesSpec)) casCrashesCard

/-- THE TIED CARD OF 'brazierlaw06.CasTurned'. -/
def casTurnedCard : Claim7 := { stood := { row := casTurnedRow, standIns := [], harness := (true, "991fb57e758d81d4edb6d03d2788fc270bd0fbfd0c0938375c69672e4928de7d"), looks := false }, kinds := [], alts := [], laidByText := true, laidKinds := [.data, .data, .data, .data], laidTests := true, laidLooks := .later }
def CasTurnedCardSaid : Prop := Claim7.holds Tryz.pinned (.plain (OpenSpec.ofChange casTurnedSpec)) casTurnedCard

/-- THE TIED CARD OF 'brazierlaw06.CasAnything'. -/
def casAnythingCard : Claim7 := { stood := { row := casAnythingRow, standIns := [], harness := (true, "991fb57e758d81d4edb6d03d2788fc270bd0fbfd0c0938375c69672e4928de7d"), looks := false }, kinds := [], alts := [], laidByText := true, laidKinds := [.data, .data, .data, .data], laidTests := true, laidLooks := .later }
def CasAnythingCardSaid : Prop := Claim7.holds Tryz.pinned (.plain (OpenSpec.ofChange casAnythingSpec)) casAnythingCard

/-- THE TIED CARD OF 'brazierlaw06.CasFull'. -/
def casFullCard : Claim7 := { stood := { row := casFullRow, standIns := [], harness := (true, "991fb57e758d81d4edb6d03d2788fc270bd0fbfd0c0938375c69672e4928de7d"), looks := false }, kinds := [], alts := [], laidByText := true, laidKinds := [.data, .data, .data, .data], laidTests := true, laidLooks := .later }
def CasFullCardSaid : Prop := Claim7.holds Tryz.pinned (.plain (OpenSpec.ofChange casFullSpec)) casFullCard

/-- THE TIED CARD OF 'brazierlaw06.CasNobody'. -/
def casNobodyCard : Claim7 := { stood := { row := casNobodyRow, standIns := [], harness := (true, "991fb57e758d81d4edb6d03d2788fc270bd0fbfd0c0938375c69672e4928de7d"), looks := false }, kinds := [], alts := [], laidByText := true, laidKinds := [.data, .data, .data, .data], laidTests := true, laidLooks := .later }
def CasNobodyCardSaid : Prop := Claim7.holds Tryz.pinned (.plain (OpenSpec.ofChange casNobodySpec)) casNobodyCard

/-- THE SECOND FORM's CARD OF 'brazierlaw06.CasEntries'. -/
def casEntriesUptoCard : Claim7 := { stood := { row := casEntriesUptoRow, standIns := [], harness := (true, "991fb57e758d81d4edb6d03d2788fc270bd0fbfd0c0938375c69672e4928de7d"), looks := false }, kinds := [], alts := [], laidByText := true, laidKinds := [.data, .data, .data, .data], laidTests := true, laidLooks := .later }
def CasEntriesUptoCardSaid : Prop := Claim7.holds Tryz.pinned (.plain (OpenSpec.upto casEntriesSpec)) casEntriesUptoCard

/-- THE SECOND FORM's CARD OF 'brazierlaw06.CasPlays'. -/
def casPlaysUptoCard : Claim7 := { stood := { row := casPlaysUptoRow, standIns := [], harness := (true, "991fb57e758d81d4edb6d03d2788fc270bd0fbfd0c0938375c69672e4928de7d"), looks := false }, kinds := [], alts := [], laidByText := true, laidKinds := [.data, .data, .data, .data], laidTests := true, laidLooks := .later }
def CasPlaysUptoCardSaid : Prop := Claim7.holds Tryz.pinned (.plain (OpenSpec.upto casPlaysSpec)) casPlaysUptoCard

/-- THE SECOND FORM's CARD OF 'brazierlaw06.CasCrashes'. -/
def casCrashesUptoCard : Claim7 := { stood := { row := casCrashesUptoRow, standIns := [], harness := (true, "991fb57e758d81d4edb6d03d2788fc270bd0fbfd0c0938375c69672e4928de7d"), looks := false }, kinds := [], alts := [], laidByText := true, laidKinds := [.data, .data, .data, .data], laidTests := true, laidLooks := .later }
def CasCrashesUptoCardSaid : Prop := Claim7.holds Tryz.pinned (.plain (OpenSpec.upto casCrashesSpec)) casCrashesUptoCard

/-- THE SECOND FORM's CARD OF 'brazierlaw06.CasTurned'. -/
def casTurnedUptoCard : Claim7 := { stood := { row := casTurnedUptoRow, standIns := [], harness := (true, "991fb57e758d81d4edb6d03d2788fc270bd0fbfd0c0938375c69672e4928de7d"), looks := false }, kinds := [], alts := [], laidByText := true, laidKinds := [.data, .data, .data, .data], laidTests := true, laidLooks := .later }
def CasTurnedUptoCardSaid : Prop := Claim7.holds Tryz.pinned (.plain (OpenSpec.upto casTurnedSpec)) casTurnedUptoCard

/-- THE SECOND FORM's CARD OF 'brazierlaw06.CasAnything'. -/
def casAnythingUptoCard : Claim7 := { stood := { row := casAnythingUptoRow, standIns := [], harness := (true, "991fb57e758d81d4edb6d03d2788fc270bd0fbfd0c0938375c69672e4928de7d"), looks := false }, kinds := [], alts := [], laidByText := true, laidKinds := [.data, .data, .data, .data], laidTests := true, laidLooks := .later }
def CasAnythingUptoCardSaid : Prop := Claim7.holds Tryz.pinned (.plain (OpenSpec.upto casAnythingSpec)) casAnythingUptoCard

/-- THE SECOND FORM's CARD OF 'brazierlaw06.CasFull'. -/
def casFullUptoCard : Claim7 := { stood := { row := casFullUptoRow, standIns := [], harness := (true, "991fb57e758d81d4edb6d03d2788fc270bd0fbfd0c0938375c69672e4928de7d"), looks := false }, kinds := [], alts := [], laidByText := true, laidKinds := [.data, .data, .data, .data], laidTests := true, laidLooks := .later }
def CasFullUptoCardSaid : Prop := Claim7.holds Tryz.pinned (.plain (OpenSpec.upto casFullSpec)) casFullUptoCard

/-- THE SECOND FORM's CARD OF 'brazierlaw06.CasNobody'. -/
def casNobodyUptoCard : Claim7 := { stood := { row := casNobodyUptoRow, standIns := [], harness := (true, "991fb57e758d81d4edb6d03d2788fc270bd0fbfd0c0938375c69672e4928de7d"), looks := false }, kinds := [], alts := [], laidByText := true, laidKinds := [.data, .data, .data, .data], laidTests := true, laidLooks := .later }
def CasNobodyUptoCardSaid : Prop := Claim7.holds Tryz.pinned (.plain (OpenSpec.upto casNobodySpec)) casNobodyUptoCard
end Rows
end Go.Proofs.YtkjdjglknbgeaaaGreatDoor
