/-
  No cell of these rows narrows 'for every input' (looked for: loops, veiled, ifaces, maps, wideKeys, modest, calm, conditions, laid).
  DERIVED. THE GIVEN ROWS OF THIS SEAT. 2 by the template 'for every input the law returns true; each argument reads behind the call as it read before'; 0 by the template 'total and deterministic' (their statements: YtjkcomoadpileaaTotals.lean).
  GIVEN WITH THE SEED: the statements are not yours to turn. If you find one false, say at which input.
  Laid BY PROGRAM, IN A SANDBOX (cutbox-rows.mjs): the forced cells as the released guide's own fill.sh prints them over the translation 9c02498b5de4e0d3… (all of the seat's roots in one cut). By AI agents, Wed Nov 11 2026. No macro, syntax, notation, axiom, sorry.
-/
import Derived.Test.YtjkcomoadpileaaChecked
import GoSem.Claim
import GoSem.ClaimJoined
import GoSem.ClaimMapViews
import Derived.JoinedTies
import Derived.KernelRfl
namespace Go.Proofs.Ytjkcomoadpileaa
/- THE CELL 'sum', in the pinned program and in every row, IS THE sha256 OF THE DUMP (.gsa) THAT YtjkcomoadpileaaProg.lean LOADS. Nothing in Lean hashes anything: it is a label: what it is worth is what the hold of that sum in a sandbox is worth. -/
noncomputable def Try.pinned : Pinned := { name := "ytjkcomoadpileaa", sum := "9c02498b5de4e0d3d4a7175869ec72f349fa0156f8ee60efcda9284f0dc1fd5d", checked := Try.checked }
namespace Rows
def none {H : Type} : Left H := { results := [], args := [] }

/-- 'brazierlaw03.SetsRows': WHATEVER THE INPUT: true; the input reads as it did. -/
def setsRowsSpec : ChangeSpec := { name := "setsRows", fn := fun _ => fun
  | [d1, d2] => { results := [.lit (.bool true)], args := [d1, d2] }
  | _ => none }
def setsRowsRow : OpenClaim := { program := "ytjkcomoadpileaa", sum := "9c02498b5de4e0d3d4a7175869ec72f349fa0156f8ee60efcda9284f0dc1fd5d", func := "brazier/brazierlaw03.SetsRows", spec := "setsRows", inPlace := ["slices.overlaps[brazier/sets.pair[int, string]]"], unfollowed := true, recurses := true, apart := false }
def SetsRowsSaid : Prop := setsRowsRow.holds Try.pinned (OpenSpec.ofChange setsRowsSpec)

/-- ITS FALSE NEIGHBOUR: 'it returns false'. Refute it at one input. -/
def setsRowsWrong : ChangeSpec := { name := "setsRows", fn := fun _ => fun
  | [d1, d2] => { results := [.lit (.bool false)], args := [d1, d2] }
  | _ => none }
def SetsRowsWrongFalsely : Prop := setsRowsRow.holds Try.pinned (OpenSpec.ofChange setsRowsWrong)

/-- 'brazierlaw03.SetsQueues': WHATEVER THE INPUT: true; the input reads as it did. -/
def setsQueuesSpec : ChangeSpec := { name := "setsQueues", fn := fun _ => fun
  | [d] => { results := [.lit (.bool true)], args := [d] }
  | _ => none }
def setsQueuesRow : OpenClaim := { program := "ytjkcomoadpileaa", sum := "9c02498b5de4e0d3d4a7175869ec72f349fa0156f8ee60efcda9284f0dc1fd5d", func := "brazier/brazierlaw03.SetsQueues", spec := "setsQueues", unfollowed := true, recurses := true, apart := false }
def SetsQueuesSaid : Prop := setsQueuesRow.holds Try.pinned (OpenSpec.ofChange setsQueuesSpec)

/-- ITS FALSE NEIGHBOUR: 'it returns false'. Refute it at one input. -/
def setsQueuesWrong : ChangeSpec := { name := "setsQueues", fn := fun _ => fun
  | [d] => { results := [.lit (.bool false)], args := [d] }
  | _ => none }
def SetsQueuesWrongFalsely : Prop := setsQueuesRow.holds Try.pinned (OpenSpec.ofChange setsQueuesWrong)

/- THE SECOND FORM. 'bulk': how many values and letters a reading holds, each counted each time it is reached (what is shared counts as often as it is met; a slice's spare places count too). A statement '..UptoSaid' is the law's where the arguments, and the package variables that the reading takes, are together of bulk at most 1048576: NARROWER than '..Said'. Prove '..Said' where nothing that the law and all that it calls make is longer than what came in: it says more and counts as full. Else prove '..UptoSaid'. A law counts once. -/
mutual
def uptoBulk {H : Type} : DataW H → Nat
  | .lit (.string bytes) => bytes.length + 1
  | .lit _ => 1
  | .nil => 1
  | .ptr d => uptoBulk d + 1
  | .slice elems spare => uptoBulkAll elems + uptoBulkAll spare + 1
  | .agg parts => uptoBulkAll parts + 1
  | .iface _ d => uptoBulk d + 1
  | .map entries => uptoBulkEntries entries + 1
  | .held _ => 1
def uptoBulkAll {H : Type} : List (DataW H) → Nat
  | [] => 0
  | d :: r => uptoBulk d + uptoBulkAll r
def uptoBulkEntries {H : Type} : List (Lit × DataW H) → Nat
  | [] => 0
  | x :: r => uptoBulkEntry x + uptoBulkEntries r
def uptoBulkEntry {H : Type} : Lit × DataW H → Nat
  | (.string bytes, d) => bytes.length + uptoBulk d + 1
  | (_, d) => uptoBulk d + 1
 end
def uptoSmall : (H : Type) → List (DataW H) → Bool := fun _ ds => decide (uptoBulkAll ds ≤ 1048576)
def OpenSpec.upto (s : _root_.Go.ChangeSpec) : _root_.Go.OpenSpec := { _root_.Go.OpenSpec.ofChange s with cond := some uptoSmall }

/-- 'brazierlaw03.SetsRows', WHERE WHAT IT READS IS OF BULK AT MOST 1048576: true; the input reads as it did. -/
def setsRowsUptoRow : OpenClaim := { program := "ytjkcomoadpileaa", sum := "9c02498b5de4e0d3d4a7175869ec72f349fa0156f8ee60efcda9284f0dc1fd5d", func := "brazier/brazierlaw03.SetsRows", spec := "setsRows", inPlace := ["slices.overlaps[brazier/sets.pair[int, string]]"], unfollowed := true, recurses := true, apart := false, narrowed := true }
def SetsRowsUptoSaid : Prop := setsRowsUptoRow.holds Try.pinned (OpenSpec.upto setsRowsSpec)

/-- 'brazierlaw03.SetsQueues', WHERE WHAT IT READS IS OF BULK AT MOST 1048576: true; the input reads as it did. -/
def setsQueuesUptoRow : OpenClaim := { program := "ytjkcomoadpileaa", sum := "9c02498b5de4e0d3d4a7175869ec72f349fa0156f8ee60efcda9284f0dc1fd5d", func := "brazier/brazierlaw03.SetsQueues", spec := "setsQueues", unfollowed := true, recurses := true, apart := false, narrowed := true }
def SetsQueuesUptoSaid : Prop := setsQueuesUptoRow.holds Try.pinned (OpenSpec.upto setsQueuesSpec)

end Rows
end Go.Proofs.Ytjkcomoadpileaa
