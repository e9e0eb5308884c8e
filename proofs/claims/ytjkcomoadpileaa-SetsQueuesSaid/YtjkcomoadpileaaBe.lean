/-
  Contracts of (*Bits).Minus.
-/
import Derived.Test.YtjkcomoadpileaaBd
namespace Go.Proofs.Ytjkcomoadpileaa
open Go.RowKit
set_option linter.unusedVariables false

/-- A set without itself. -/
def zerosK (ws : List Nat) (k : Nat) : List Nat := zipK lessF ws ws k
end Go.Proofs.Ytjkcomoadpileaa
