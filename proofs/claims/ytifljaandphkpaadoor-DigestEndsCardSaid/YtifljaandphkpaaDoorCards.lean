/-
  DERIVED. GIVEN WITH THE SEED: THE CARDS: each row of YtifljaandphkpaaDoorRows.lean that lists a variable, with what it lists TIED to the program's text (the seventh form; the later family's looks); each row that meets fmt, with fmt's text TOLD by the authors' own Lean function (tested against real Go, not proved from fmt's source: count such statements apart). THE CARD IS WHAT COUNTS. Prove the row's statement (the work); the ties are given (YtifljaandphkpaaDoorTie.lean); close each card by the builder's one call (the guide's Derived/Test/ToyasCard.lean, 'card_holds'). Laid BY PROGRAM, IN A SANDBOX (cutbox-door.mjs). By AI agents, Wed Nov 11 2026. No macro, syntax, notation, axiom, sorry.
-/
import Derived.Test.YtifljaandphkpaaDoorRows
import GoSem.ClaimSeven
namespace Go.Proofs.YtifljaandphkpaaDoor
namespace Rows

/-- THE TIED CARD OF 'brazierlaw02.DigestCrcs'. -/
def digestCrcsCard : Claim7 := { stood := { row := digestCrcsRow, standIns := [], harness := (true, "f053a978eb1939238cef6ea2e53e95d5933a327ea48c2762840e7e8918f2d8c0"), looks := false }, kinds := [], alts := [], laidByText := true, laidKinds := [.data], laidTests := true, laidLooks := .later }
def DigestCrcsCardSaid : Prop := Claim7.holds Tryd.pinned (.plain (OpenSpec.ofChange digestCrcsSpec)) digestCrcsCard

/-- THE TIED CARD OF 'brazierlaw02.DigestShas'. -/
def digestShasCard : Claim7 := { stood := { row := digestShasRow, standIns := [], harness := (true, "f053a978eb1939238cef6ea2e53e95d5933a327ea48c2762840e7e8918f2d8c0"), looks := false }, kinds := [], alts := [], laidByText := true, laidKinds := [.data], laidTests := true, laidLooks := .later }
def DigestShasCardSaid : Prop := Claim7.holds Tryd.pinned (.plain (OpenSpec.ofChange digestShasSpec)) digestShasCard

/-- THE TIED CARD OF 'brazierlaw02.DigestMore'. -/
def digestMoreCard : Claim7 := { stood := { row := digestMoreRow, standIns := [], harness := (true, "f053a978eb1939238cef6ea2e53e95d5933a327ea48c2762840e7e8918f2d8c0"), looks := false }, kinds := [], alts := [], laidByText := true, laidKinds := [.data], laidTests := true, laidLooks := .later }
def DigestMoreCardSaid : Prop := Claim7.holds Tryd.pinned (.plain (OpenSpec.ofChange digestMoreSpec)) digestMoreCard

/-- THE TIED CARD OF 'brazierlaw02.DigestPieces'. -/
def digestPiecesCard : Claim7 := { stood := { row := digestPiecesRow, standIns := [], harness := (true, "f053a978eb1939238cef6ea2e53e95d5933a327ea48c2762840e7e8918f2d8c0"), looks := false }, kinds := [], alts := [], laidByText := true, laidKinds := [.data], laidTests := true, laidLooks := .later }
def DigestPiecesCardSaid : Prop := Claim7.holds Tryd.pinned (.plain (OpenSpec.ofChange digestPiecesSpec)) digestPiecesCard

/-- THE TIED CARD OF 'brazierlaw02.DigestEnds'. -/
def digestEndsCard : Claim7 := { stood := { row := digestEndsRow, standIns := [], harness := (true, "f053a978eb1939238cef6ea2e53e95d5933a327ea48c2762840e7e8918f2d8c0"), looks := false }, kinds := [], alts := [], laidByText := true, laidKinds := [.data], laidTests := true, laidLooks := .later }
def DigestEndsCardSaid : Prop := Claim7.holds Tryd.pinned (.plain (OpenSpec.ofChange digestEndsSpec)) digestEndsCard

/-- THE TIED CARD OF 'brazierlaw02.DigestTurned'. -/
def digestTurnedCard : Claim7 := { stood := { row := digestTurnedRow, standIns := [], harness := (true, "f053a978eb1939238cef6ea2e53e95d5933a327ea48c2762840e7e8918f2d8c0"), looks := false }, kinds := [], alts := [], laidByText := true, laidKinds := [.data], laidTests := true, laidLooks := .later }
def DigestTurnedCardSaid : Prop := Claim7.holds Tryd.pinned (.plain (OpenSpec.ofChange digestTurnedSpec)) digestTurnedCard

/-- THE SECOND FORM's CARD OF 'brazierlaw02.DigestCrcs'. -/
def digestCrcsUptoCard : Claim7 := { stood := { row := digestCrcsUptoRow, standIns := [], harness := (true, "f053a978eb1939238cef6ea2e53e95d5933a327ea48c2762840e7e8918f2d8c0"), looks := false }, kinds := [], alts := [], laidByText := true, laidKinds := [.data], laidTests := true, laidLooks := .later }
def DigestCrcsUptoCardSaid : Prop := Claim7.holds Tryd.pinned (.plain (OpenSpec.upto digestCrcsSpec)) digestCrcsUptoCard

/-- THE SECOND FORM's CARD OF 'brazierlaw02.DigestShas'. -/
def digestShasUptoCard : Claim7 := { stood := { row := digestShasUptoRow, standIns := [], harness := (true, "f053a978eb1939238cef6ea2e53e95d5933a327ea48c2762840e7e8918f2d8c0"), looks := false }, kinds := [], alts := [], laidByText := true, laidKinds := [.data], laidTests := true, laidLooks := .later }
def DigestShasUptoCardSaid : Prop := Claim7.holds Tryd.pinned (.plain (OpenSpec.upto digestShasSpec)) digestShasUptoCard

/-- THE SECOND FORM's CARD OF 'brazierlaw02.DigestMore'. -/
def digestMoreUptoCard : Claim7 := { stood := { row := digestMoreUptoRow, standIns := [], harness := (true, "f053a978eb1939238cef6ea2e53e95d5933a327ea48c2762840e7e8918f2d8c0"), looks := false }, kinds := [], alts := [], laidByText := true, laidKinds := [.data], laidTests := true, laidLooks := .later }
def DigestMoreUptoCardSaid : Prop := Claim7.holds Tryd.pinned (.plain (OpenSpec.upto digestMoreSpec)) digestMoreUptoCard

/-- THE SECOND FORM's CARD OF 'brazierlaw02.DigestPieces'. -/
def digestPiecesUptoCard : Claim7 := { stood := { row := digestPiecesUptoRow, standIns := [], harness := (true, "f053a978eb1939238cef6ea2e53e95d5933a327ea48c2762840e7e8918f2d8c0"), looks := false }, kinds := [], alts := [], laidByText := true, laidKinds := [.data], laidTests := true, laidLooks := .later }
def DigestPiecesUptoCardSaid : Prop := Claim7.holds Tryd.pinned (.plain (OpenSpec.upto digestPiecesSpec)) digestPiecesUptoCard

/-- THE SECOND FORM's CARD OF 'brazierlaw02.DigestEnds'. -/
def digestEndsUptoCard : Claim7 := { stood := { row := digestEndsUptoRow, standIns := [], harness := (true, "f053a978eb1939238cef6ea2e53e95d5933a327ea48c2762840e7e8918f2d8c0"), looks := false }, kinds := [], alts := [], laidByText := true, laidKinds := [.data], laidTests := true, laidLooks := .later }
def DigestEndsUptoCardSaid : Prop := Claim7.holds Tryd.pinned (.plain (OpenSpec.upto digestEndsSpec)) digestEndsUptoCard

/-- THE SECOND FORM's CARD OF 'brazierlaw02.DigestTurned'. -/
def digestTurnedUptoCard : Claim7 := { stood := { row := digestTurnedUptoRow, standIns := [], harness := (true, "f053a978eb1939238cef6ea2e53e95d5933a327ea48c2762840e7e8918f2d8c0"), looks := false }, kinds := [], alts := [], laidByText := true, laidKinds := [.data], laidTests := true, laidLooks := .later }
def DigestTurnedUptoCardSaid : Prop := Claim7.holds Tryd.pinned (.plain (OpenSpec.upto digestTurnedSpec)) digestTurnedUptoCard
end Rows
end Go.Proofs.YtifljaandphkpaaDoor
