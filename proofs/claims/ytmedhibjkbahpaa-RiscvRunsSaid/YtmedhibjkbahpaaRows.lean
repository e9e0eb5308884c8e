/-
  No cell of these rows narrows 'for every input' (looked for: loops, veiled, ifaces, maps, wideKeys, modest, calm, conditions, laid).
  DERIVED. THE GIVEN ROWS OF THIS SEAT. 4 by the template 'for every input the law returns true; each argument reads behind the call as it read before'; 0 by the template 'total and deterministic' (their statements: YtmedhibjkbahpaaTotals.lean).
  GIVEN WITH THE SEED: the statements are not yours to turn. If you find one false, say at which input.
  Laid BY PROGRAM, IN A SANDBOX (cutbox-rows.mjs): the forced cells as the released guide's own fill.sh prints them over the translation b20e3176134ca590… (all of the seat's roots in one cut). By AI agents, Wed Nov 11 2026. No macro, syntax, notation, axiom, sorry.
-/
import Derived.Test.YtmedhibjkbahpaaChecked
import GoSem.Claim
import GoSem.ClaimJoined
import GoSem.ClaimMapViews
import Derived.JoinedTies
import Derived.KernelRfl
namespace Go.Proofs.Ytmedhibjkbahpaa
/- THE CELL 'sum', in the pinned program and in every row, IS THE sha256 OF THE DUMP (.gsa) THAT YtmedhibjkbahpaaProg.lean LOADS. Nothing in Lean hashes anything: it is a label: what it is worth is what the hold of that sum in a sandbox is worth. -/
noncomputable def Try.pinned : Pinned := { name := "ytmedhibjkbahpaa", sum := "b20e3176134ca5904c4ddd8db0f674a620d9ee64736b012ffd0ab037d1757a34", checked := Try.checked }
namespace Rows
def none {H : Type} : Left H := { results := [], args := [] }

/-- 'brazierlaw18.RiscvLoads': WHATEVER THE INPUT: true; the input reads as it did. -/
def riscvLoadsSpec : ChangeSpec := { name := "riscvLoads", fn := fun _ => fun
  | [d1, d2] => { results := [.lit (.bool true)], args := [d1, d2] }
  | _ => none }
def riscvLoadsRow : OpenClaim := { program := "ytmedhibjkbahpaa", sum := "b20e3176134ca5904c4ddd8db0f674a620d9ee64736b012ffd0ab037d1757a34", func := "brazier/brazierlaw18.RiscvLoads", spec := "riscvLoads", unfollowed := true, recurses := true, apart := false }
def RiscvLoadsSaid : Prop := riscvLoadsRow.holds Try.pinned (OpenSpec.ofChange riscvLoadsSpec)

/-- ITS FALSE NEIGHBOUR: 'it returns false'. Refute it at one input. -/
def riscvLoadsWrong : ChangeSpec := { name := "riscvLoads", fn := fun _ => fun
  | [d1, d2] => { results := [.lit (.bool false)], args := [d1, d2] }
  | _ => none }
def RiscvLoadsWrongFalsely : Prop := riscvLoadsRow.holds Try.pinned (OpenSpec.ofChange riscvLoadsWrong)

/-- 'brazierlaw18.RiscvSteps': WHATEVER THE INPUT: true; the input reads as it did. -/
def riscvStepsSpec : ChangeSpec := { name := "riscvSteps", fn := fun _ => fun
  | [d1, d2, d3] => { results := [.lit (.bool true)], args := [d1, d2, d3] }
  | _ => none }
def riscvStepsRow : OpenClaim := { program := "ytmedhibjkbahpaa", sum := "b20e3176134ca5904c4ddd8db0f674a620d9ee64736b012ffd0ab037d1757a34", func := "brazier/brazierlaw18.RiscvSteps", spec := "riscvSteps", unfollowed := true, recurses := true, apart := false }
def RiscvStepsSaid : Prop := riscvStepsRow.holds Try.pinned (OpenSpec.ofChange riscvStepsSpec)

/-- ITS FALSE NEIGHBOUR: 'it returns false'. Refute it at one input. -/
def riscvStepsWrong : ChangeSpec := { name := "riscvSteps", fn := fun _ => fun
  | [d1, d2, d3] => { results := [.lit (.bool false)], args := [d1, d2, d3] }
  | _ => none }
def RiscvStepsWrongFalsely : Prop := riscvStepsRow.holds Try.pinned (OpenSpec.ofChange riscvStepsWrong)

/-- 'brazierlaw18.RiscvRuns': WHATEVER THE INPUT: true; the input reads as it did. -/
def riscvRunsSpec : ChangeSpec := { name := "riscvRuns", fn := fun _ => fun
  | [d1, d2, d3] => { results := [.lit (.bool true)], args := [d1, d2, d3] }
  | _ => none }
def riscvRunsRow : OpenClaim := { program := "ytmedhibjkbahpaa", sum := "b20e3176134ca5904c4ddd8db0f674a620d9ee64736b012ffd0ab037d1757a34", func := "brazier/brazierlaw18.RiscvRuns", spec := "riscvRuns", unfollowed := true, recurses := true, apart := false }
def RiscvRunsSaid : Prop := riscvRunsRow.holds Try.pinned (OpenSpec.ofChange riscvRunsSpec)

/-- ITS FALSE NEIGHBOUR: 'it returns false'. Refute it at one input. -/
def riscvRunsWrong : ChangeSpec := { name := "riscvRuns", fn := fun _ => fun
  | [d1, d2, d3] => { results := [.lit (.bool false)], args := [d1, d2, d3] }
  | _ => none }
def RiscvRunsWrongFalsely : Prop := riscvRunsRow.holds Try.pinned (OpenSpec.ofChange riscvRunsWrong)

/-- 'brazierlaw18.RiscvReckons': WHATEVER THE INPUT: true; the input reads as it did. -/
def riscvReckonsSpec : ChangeSpec := { name := "riscvReckons", fn := fun _ => fun
  | [d1, d2] => { results := [.lit (.bool true)], args := [d1, d2] }
  | _ => none }
def riscvReckonsRow : OpenClaim := { program := "ytmedhibjkbahpaa", sum := "b20e3176134ca5904c4ddd8db0f674a620d9ee64736b012ffd0ab037d1757a34", func := "brazier/brazierlaw18.RiscvReckons", spec := "riscvReckons", unfollowed := true, recurses := true, apart := false }
def RiscvReckonsSaid : Prop := riscvReckonsRow.holds Try.pinned (OpenSpec.ofChange riscvReckonsSpec)

/-- ITS FALSE NEIGHBOUR: 'it returns false'. Refute it at one input. -/
def riscvReckonsWrong : ChangeSpec := { name := "riscvReckons", fn := fun _ => fun
  | [d1, d2] => { results := [.lit (.bool false)], args := [d1, d2] }
  | _ => none }
def RiscvReckonsWrongFalsely : Prop := riscvReckonsRow.holds Try.pinned (OpenSpec.ofChange riscvReckonsWrong)

/- THE SECOND FORM. 'bulk': how many values and letters a reading holds, each counted each time it is reached (what is shared counts as often as it is met; a slice's spare places count too). A statement '..UptoSaid' is the law's where the arguments, and the package variables that the reading takes, are together of bulk at most 1048576: NARROWER than '..Said'. Prove '..Said' where nothing that the law and all that it calls make is longer than what came in: it says more and counts as full. Else prove '..UptoSaid'. A law counts once. -/
mutual
def uptoBulk {H : Type} : DataW H → Nat
  | .lit (.string bytes) => bytes.length + 1
  | .lit _ => 1
  | .nil => 1
  | .ptr d => uptoBulk d + 1
  | .slice elems spare => uptoBulkAll elems + uptoBulkAll spare + 1
  | .agg parts => uptoBulkAll parts + 1
  | .iface _ d => uptoBulk d + 1
  | .map entries => uptoBulkEntries entries + 1
  | .held _ => 1
def uptoBulkAll {H : Type} : List (DataW H) → Nat
  | [] => 0
  | d :: r => uptoBulk d + uptoBulkAll r
def uptoBulkEntries {H : Type} : List (Lit × DataW H) → Nat
  | [] => 0
  | x :: r => uptoBulkEntry x + uptoBulkEntries r
def uptoBulkEntry {H : Type} : Lit × DataW H → Nat
  | (.string bytes, d) => bytes.length + uptoBulk d + 1
  | (_, d) => uptoBulk d + 1
 end
def uptoSmall : (H : Type) → List (DataW H) → Bool := fun _ ds => decide (uptoBulkAll ds ≤ 1048576)
def OpenSpec.upto (s : _root_.Go.ChangeSpec) : _root_.Go.OpenSpec := { _root_.Go.OpenSpec.ofChange s with cond := some uptoSmall }

/-- 'brazierlaw18.RiscvLoads', WHERE WHAT IT READS IS OF BULK AT MOST 1048576: true; the input reads as it did. -/
def riscvLoadsUptoRow : OpenClaim := { program := "ytmedhibjkbahpaa", sum := "b20e3176134ca5904c4ddd8db0f674a620d9ee64736b012ffd0ab037d1757a34", func := "brazier/brazierlaw18.RiscvLoads", spec := "riscvLoads", unfollowed := true, recurses := true, apart := false, narrowed := true }
def RiscvLoadsUptoSaid : Prop := riscvLoadsUptoRow.holds Try.pinned (OpenSpec.upto riscvLoadsSpec)

/-- 'brazierlaw18.RiscvSteps', WHERE WHAT IT READS IS OF BULK AT MOST 1048576: true; the input reads as it did. -/
def riscvStepsUptoRow : OpenClaim := { program := "ytmedhibjkbahpaa", sum := "b20e3176134ca5904c4ddd8db0f674a620d9ee64736b012ffd0ab037d1757a34", func := "brazier/brazierlaw18.RiscvSteps", spec := "riscvSteps", unfollowed := true, recurses := true, apart := false, narrowed := true }
def RiscvStepsUptoSaid : Prop := riscvStepsUptoRow.holds Try.pinned (OpenSpec.upto riscvStepsSpec)

/-- 'brazierlaw18.RiscvRuns', WHERE WHAT IT READS IS OF BULK AT MOST 1048576: true; the input reads as it did. -/
def riscvRunsUptoRow : OpenClaim := { program := "ytmedhibjkbahpaa", sum := "b20e3176134ca5904c4ddd8db0f674a620d9ee64736b012ffd0ab037d1757a34", func := "brazier/brazierlaw18.RiscvRuns", spec := "riscvRuns", unfollowed := true, recurses := true, apart := false, narrowed := true }
def RiscvRunsUptoSaid : Prop := riscvRunsUptoRow.holds Try.pinned (OpenSpec.upto riscvRunsSpec)

/-- 'brazierlaw18.RiscvReckons', WHERE WHAT IT READS IS OF BULK AT MOST 1048576: true; the input reads as it did. -/
def riscvReckonsUptoRow : OpenClaim := { program := "ytmedhibjkbahpaa", sum := "b20e3176134ca5904c4ddd8db0f674a620d9ee64736b012ffd0ab037d1757a34", func := "brazier/brazierlaw18.RiscvReckons", spec := "riscvReckons", unfollowed := true, recurses := true, apart := false, narrowed := true }
def RiscvReckonsUptoSaid : Prop := riscvReckonsUptoRow.holds Try.pinned (OpenSpec.upto riscvReckonsSpec)

end Rows
end Go.Proofs.Ytmedhibjkbahpaa
