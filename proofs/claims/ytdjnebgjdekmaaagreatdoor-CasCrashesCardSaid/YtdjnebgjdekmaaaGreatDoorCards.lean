/-
  DERIVED. GIVEN WITH THE SEED: THE CARDS: each row of YtdjnebgjdekmaaaGreatDoorRows.lean that lists a variable, with what it lists TIED to the program's text (the seventh form; the later family's looks); each row that meets fmt, with fmt's text TOLD by the authors' own Lean function (tested against real Go, not proved from fmt's source: count such statements apart). THE CARD IS WHAT COUNTS. Prove the row's statement (the work); the ties are given (YtdjnebgjdekmaaaGreatDoorTie.lean); close each card by the builder's one call (the guide's Derived/Test/ToyasCard.lean, 'card_holds'). Laid BY PROGRAM, IN A SANDBOX (cutbox-door.mjs). By AI agents, Wed Nov 11 2026. No macro, syntax, notation, axiom, sorry.
-/
import Derived.Test.YtdjnebgjdekmaaaGreatDoorRows
import GoSem.ClaimSeven
namespace Go.Proofs.YtdjnebgjdekmaaaGreatDoor
namespace Rows

/-- THE TIED CARD OF 'brazierlaw06.CasCrashes'. -/
def casCrashesCard : Claim7 := { stood := { row := casCrashesRow, standIns := [], harness := (true, "235b7541a0d7419ccdcafbedf7130c4ab9274baac75a347266d35582cdac633b"), looks := false }, kinds := [], alts := [], laidByText := true, laidKinds := [.data, .data, .data, .data], laidTests := true, laidLooks := .later }
def CasCrashesCardSaid : Prop := Claim7.holds Tryz.pinned (.plain (OpenSpec.ofChange casCrashesSpec)) casCrashesCard

/-- THE TIED CARD OF 'brazierlaw06.CasAnything'. -/
def casAnythingCard : Claim7 := { stood := { row := casAnythingRow, standIns := [], harness := (true, "235b7541a0d7419ccdcafbedf7130c4ab9274baac75a347266d35582cdac633b"), looks := false }, kinds := [], alts := [], laidByText := true, laidKinds := [.data, .data, .data, .data], laidTests := true, laidLooks := .later }
def CasAnythingCardSaid : Prop := Claim7.holds Tryz.pinned (.plain (OpenSpec.ofChange casAnythingSpec)) casAnythingCard

/-- THE SECOND FORM's CARD OF 'brazierlaw06.CasCrashes'. -/
def casCrashesUptoCard : Claim7 := { stood := { row := casCrashesUptoRow, standIns := [], harness := (true, "235b7541a0d7419ccdcafbedf7130c4ab9274baac75a347266d35582cdac633b"), looks := false }, kinds := [], alts := [], laidByText := true, laidKinds := [.data, .data, .data, .data], laidTests := true, laidLooks := .later }
def CasCrashesUptoCardSaid : Prop := Claim7.holds Tryz.pinned (.plain (OpenSpec.upto casCrashesSpec)) casCrashesUptoCard

/-- THE SECOND FORM's CARD OF 'brazierlaw06.CasAnything'. -/
def casAnythingUptoCard : Claim7 := { stood := { row := casAnythingUptoRow, standIns := [], harness := (true, "235b7541a0d7419ccdcafbedf7130c4ab9274baac75a347266d35582cdac633b"), looks := false }, kinds := [], alts := [], laidByText := true, laidKinds := [.data, .data, .data, .data], laidTests := true, laidLooks := .later }
def CasAnythingUptoCardSaid : Prop := Claim7.holds Tryz.pinned (.plain (OpenSpec.upto casAnythingSpec)) casAnythingUptoCard
end Rows
end Go.Proofs.YtdjnebgjdekmaaaGreatDoor
