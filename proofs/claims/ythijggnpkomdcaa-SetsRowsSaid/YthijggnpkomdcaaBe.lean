/-
  Contracts of (*Bits).Minus.
-/
import Derived.Test.YthijggnpkomdcaaBd
namespace Go.Proofs.Ythijggnpkomdcaa
open Go.RowKit
set_option linter.unusedVariables false
set_option maxRecDepth 100000

/-- A set without itself. -/
def zerosK (ws : List Nat) (k : Nat) : List Nat := zipK lessF ws ws k
end Go.Proofs.Ythijggnpkomdcaa
