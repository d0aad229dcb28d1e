/-
  No cell of these rows narrows 'for every input' (looked for: loops, veiled, ifaces, maps, wideKeys, modest, calm, conditions, laid).
  DERIVED. THE GIVEN ROWS OF THIS SEAT. 7 by the template 'for every input the law returns true; each argument reads behind the call as it read before'; 0 by the template 'total and deterministic' (their statements: YtkoenncepcmljaaTotals.lean).
  GIVEN WITH THE SEED: the statements are not yours to turn. If you find one false, say at which input.
  Laid BY PROGRAM, IN A SANDBOX (cutbox-rows.mjs): the forced cells as the released guide's own fill.sh prints them over the translation c7b540ebb32f90e7… (all of the seat's roots in one cut). By AI agents, Wed Nov 11 2026. No macro, syntax, notation, axiom, sorry.
-/
import Derived.Test.YtkoenncepcmljaaChecked
import GoSem.Claim
import GoSem.ClaimJoined
import GoSem.ClaimMapViews
import Derived.JoinedTies
import Derived.KernelRfl
namespace Go.Proofs.Ytkoenncepcmljaa
/- THE CELL 'sum', in the pinned program and in every row, IS THE sha256 OF THE DUMP (.gsa) THAT YtkoenncepcmljaaProg.lean LOADS. Nothing in Lean hashes anything: it is a label: what it is worth is what the hold of that sum in a sandbox is worth. -/
noncomputable def Try.pinned : Pinned := { name := "ytkoenncepcmljaa", sum := "c7b540ebb32f90e7fc07e6a4fd20d4fb935cc5fbde824d8768ba7a1455757d16", checked := Try.checked }
namespace Rows
def none {H : Type} : Left H := { results := [], args := [] }

/-- 'tapeworkslaw.CrossAlls': WHATEVER THE INPUT: true; the input reads as it did. -/
def crossAllsSpec : ChangeSpec := { name := "crossAlls", fn := fun _ => fun
  | [d1, d2, d3] => { results := [.lit (.bool true)], args := [d1, d2, d3] }
  | _ => none }
def crossAllsRow : OpenClaim := { program := "ytkoenncepcmljaa", sum := "c7b540ebb32f90e7fc07e6a4fd20d4fb935cc5fbde824d8768ba7a1455757d16", func := "tapeworks/tapeworkslaw.CrossAlls", spec := "crossAlls", unfollowed := true, recurses := true, apart := false }
def CrossAllsSaid : Prop := crossAllsRow.holds Try.pinned (OpenSpec.ofChange crossAllsSpec)

/-- ITS FALSE NEIGHBOUR: 'it returns false'. Refute it at one input. -/
def crossAllsWrong : ChangeSpec := { name := "crossAlls", fn := fun _ => fun
  | [d1, d2, d3] => { results := [.lit (.bool false)], args := [d1, d2, d3] }
  | _ => none }
def CrossAllsWrongFalsely : Prop := crossAllsRow.holds Try.pinned (OpenSpec.ofChange crossAllsWrong)

/-- 'tapeworkskeep.CrossTurns': WHATEVER THE INPUT: true; the input reads as it did. -/
def crossTurnsSpec : ChangeSpec := { name := "crossTurns", fn := fun _ => fun
  | [d1, d2, d3] => { results := [.lit (.bool true)], args := [d1, d2, d3] }
  | _ => none }
def crossTurnsRow : OpenClaim := { program := "ytkoenncepcmljaa", sum := "c7b540ebb32f90e7fc07e6a4fd20d4fb935cc5fbde824d8768ba7a1455757d16", func := "tapeworks/tapeworkskeep.CrossTurns", spec := "crossTurns", unfollowed := true, recurses := true, apart := false }
def CrossTurnsSaid : Prop := crossTurnsRow.holds Try.pinned (OpenSpec.ofChange crossTurnsSpec)

/-- ITS FALSE NEIGHBOUR: 'it returns false'. Refute it at one input. -/
def crossTurnsWrong : ChangeSpec := { name := "crossTurns", fn := fun _ => fun
  | [d1, d2, d3] => { results := [.lit (.bool false)], args := [d1, d2, d3] }
  | _ => none }
def CrossTurnsWrongFalsely : Prop := crossTurnsRow.holds Try.pinned (OpenSpec.ofChange crossTurnsWrong)

/-- 'tapeworkskeep.CrossPaste': WHATEVER THE INPUT: true; the input reads as it did. -/
def crossPasteSpec : ChangeSpec := { name := "crossPaste", fn := fun _ => fun
  | [d1, d2, d3, d4, d5] => { results := [.lit (.bool true)], args := [d1, d2, d3, d4, d5] }
  | _ => none }
def crossPasteRow : OpenClaim := { program := "ytkoenncepcmljaa", sum := "c7b540ebb32f90e7fc07e6a4fd20d4fb935cc5fbde824d8768ba7a1455757d16", func := "tapeworks/tapeworkskeep.CrossPaste", spec := "crossPaste", unfollowed := true, recurses := true, apart := false }
def CrossPasteSaid : Prop := crossPasteRow.holds Try.pinned (OpenSpec.ofChange crossPasteSpec)

/-- ITS FALSE NEIGHBOUR: 'it returns false'. Refute it at one input. -/
def crossPasteWrong : ChangeSpec := { name := "crossPaste", fn := fun _ => fun
  | [d1, d2, d3, d4, d5] => { results := [.lit (.bool false)], args := [d1, d2, d3, d4, d5] }
  | _ => none }
def CrossPasteWrongFalsely : Prop := crossPasteRow.holds Try.pinned (OpenSpec.ofChange crossPasteWrong)

/-- 'tapeworkslaw.CountChecks': WHATEVER THE INPUT: true; the input reads as it did. -/
def countChecksSpec : ChangeSpec := { name := "countChecks", fn := fun _ => fun
  | [d1, d2] => { results := [.lit (.bool true)], args := [d1, d2] }
  | _ => none }
def countChecksRow : OpenClaim := { program := "ytkoenncepcmljaa", sum := "c7b540ebb32f90e7fc07e6a4fd20d4fb935cc5fbde824d8768ba7a1455757d16", func := "tapeworks/tapeworkslaw.CountChecks", spec := "countChecks", unfollowed := true, recurses := true, apart := false }
def CountChecksSaid : Prop := countChecksRow.holds Try.pinned (OpenSpec.ofChange countChecksSpec)

/-- ITS FALSE NEIGHBOUR: 'it returns false'. Refute it at one input. -/
def countChecksWrong : ChangeSpec := { name := "countChecks", fn := fun _ => fun
  | [d1, d2] => { results := [.lit (.bool false)], args := [d1, d2] }
  | _ => none }
def CountChecksWrongFalsely : Prop := countChecksRow.holds Try.pinned (OpenSpec.ofChange countChecksWrong)

/-- 'tapeworkslaw.CountRuns': WHATEVER THE INPUT: true; the input reads as it did. -/
def countRunsSpec : ChangeSpec := { name := "countRuns", fn := fun _ => fun
  | [d1, d2, d3, d4] => { results := [.lit (.bool true)], args := [d1, d2, d3, d4] }
  | _ => none }
def countRunsRow : OpenClaim := { program := "ytkoenncepcmljaa", sum := "c7b540ebb32f90e7fc07e6a4fd20d4fb935cc5fbde824d8768ba7a1455757d16", func := "tapeworks/tapeworkslaw.CountRuns", spec := "countRuns", unfollowed := true, recurses := true, apart := false }
def CountRunsSaid : Prop := countRunsRow.holds Try.pinned (OpenSpec.ofChange countRunsSpec)

/-- ITS FALSE NEIGHBOUR: 'it returns false'. Refute it at one input. -/
def countRunsWrong : ChangeSpec := { name := "countRuns", fn := fun _ => fun
  | [d1, d2, d3, d4] => { results := [.lit (.bool false)], args := [d1, d2, d3, d4] }
  | _ => none }
def CountRunsWrongFalsely : Prop := countRunsRow.holds Try.pinned (OpenSpec.ofChange countRunsWrong)

/-- 'tapeworkskeep.CountSum': WHATEVER THE INPUT: true; the input reads as it did. -/
def countSumSpec : ChangeSpec := { name := "countSum", fn := fun _ => fun
  | [d1, d2, d3, d4] => { results := [.lit (.bool true)], args := [d1, d2, d3, d4] }
  | _ => none }
def countSumRow : OpenClaim := { program := "ytkoenncepcmljaa", sum := "c7b540ebb32f90e7fc07e6a4fd20d4fb935cc5fbde824d8768ba7a1455757d16", func := "tapeworks/tapeworkskeep.CountSum", spec := "countSum", unfollowed := true, recurses := true, apart := false }
def CountSumSaid : Prop := countSumRow.holds Try.pinned (OpenSpec.ofChange countSumSpec)

/-- ITS FALSE NEIGHBOUR: 'it returns false'. Refute it at one input. -/
def countSumWrong : ChangeSpec := { name := "countSum", fn := fun _ => fun
  | [d1, d2, d3, d4] => { results := [.lit (.bool false)], args := [d1, d2, d3, d4] }
  | _ => none }
def CountSumWrongFalsely : Prop := countSumRow.holds Try.pinned (OpenSpec.ofChange countSumWrong)

/-- 'tapeworkskeep.CountMove': WHATEVER THE INPUT: true; the input reads as it did. -/
def countMoveSpec : ChangeSpec := { name := "countMove", fn := fun _ => fun
  | [d1, d2] => { results := [.lit (.bool true)], args := [d1, d2] }
  | _ => none }
def countMoveRow : OpenClaim := { program := "ytkoenncepcmljaa", sum := "c7b540ebb32f90e7fc07e6a4fd20d4fb935cc5fbde824d8768ba7a1455757d16", func := "tapeworks/tapeworkskeep.CountMove", spec := "countMove", unfollowed := true, recurses := true, apart := false }
def CountMoveSaid : Prop := countMoveRow.holds Try.pinned (OpenSpec.ofChange countMoveSpec)

/-- ITS FALSE NEIGHBOUR: 'it returns false'. Refute it at one input. -/
def countMoveWrong : ChangeSpec := { name := "countMove", fn := fun _ => fun
  | [d1, d2] => { results := [.lit (.bool false)], args := [d1, d2] }
  | _ => none }
def CountMoveWrongFalsely : Prop := countMoveRow.holds Try.pinned (OpenSpec.ofChange countMoveWrong)

/- THE SECOND FORM. 'bulk': how many values and letters a reading holds, each counted each time it is reached (what is shared counts as often as it is met; a slice's spare places count too). A statement '..UptoSaid' is the law's where the arguments, and the package variables that the reading takes, are together of bulk at most 1048576: NARROWER than '..Said'. Prove '..Said' where nothing that the law and all that it calls make is longer than what came in: it says more and counts as full. Else prove '..UptoSaid'. A law counts once. -/
mutual
def uptoBulk {H : Type} : DataW H → Nat
  | .lit (.string bytes) => bytes.length + 1
  | .lit _ => 1
  | .nil => 1
  | .ptr d => uptoBulk d + 1
  | .slice elems spare => uptoBulkAll elems + uptoBulkAll spare + 1
  | .agg parts => uptoBulkAll parts + 1
  | .iface _ d => uptoBulk d + 1
  | .map entries => uptoBulkEntries entries + 1
  | .held _ => 1
def uptoBulkAll {H : Type} : List (DataW H) → Nat
  | [] => 0
  | d :: r => uptoBulk d + uptoBulkAll r
def uptoBulkEntries {H : Type} : List (Lit × DataW H) → Nat
  | [] => 0
  | x :: r => uptoBulkEntry x + uptoBulkEntries r
def uptoBulkEntry {H : Type} : Lit × DataW H → Nat
  | (.string bytes, d) => bytes.length + uptoBulk d + 1
  | (_, d) => uptoBulk d + 1
 end
def uptoSmall : (H : Type) → List (DataW H) → Bool := fun _ ds => decide (uptoBulkAll ds ≤ 1048576)
def OpenSpec.upto (s : _root_.Go.ChangeSpec) : _root_.Go.OpenSpec := { _root_.Go.OpenSpec.ofChange s with cond := some uptoSmall }

/-- 'tapeworkslaw.CrossAlls', WHERE WHAT IT READS IS OF BULK AT MOST 1048576: true; the input reads as it did. -/
def crossAllsUptoRow : OpenClaim := { program := "ytkoenncepcmljaa", sum := "c7b540ebb32f90e7fc07e6a4fd20d4fb935cc5fbde824d8768ba7a1455757d16", func := "tapeworks/tapeworkslaw.CrossAlls", spec := "crossAlls", unfollowed := true, recurses := true, apart := false, narrowed := true }
def CrossAllsUptoSaid : Prop := crossAllsUptoRow.holds Try.pinned (OpenSpec.upto crossAllsSpec)

/-- 'tapeworkskeep.CrossTurns', WHERE WHAT IT READS IS OF BULK AT MOST 1048576: true; the input reads as it did. -/
def crossTurnsUptoRow : OpenClaim := { program := "ytkoenncepcmljaa", sum := "c7b540ebb32f90e7fc07e6a4fd20d4fb935cc5fbde824d8768ba7a1455757d16", func := "tapeworks/tapeworkskeep.CrossTurns", spec := "crossTurns", unfollowed := true, recurses := true, apart := false, narrowed := true }
def CrossTurnsUptoSaid : Prop := crossTurnsUptoRow.holds Try.pinned (OpenSpec.upto crossTurnsSpec)

/-- 'tapeworkskeep.CrossPaste', WHERE WHAT IT READS IS OF BULK AT MOST 1048576: true; the input reads as it did. -/
def crossPasteUptoRow : OpenClaim := { program := "ytkoenncepcmljaa", sum := "c7b540ebb32f90e7fc07e6a4fd20d4fb935cc5fbde824d8768ba7a1455757d16", func := "tapeworks/tapeworkskeep.CrossPaste", spec := "crossPaste", unfollowed := true, recurses := true, apart := false, narrowed := true }
def CrossPasteUptoSaid : Prop := crossPasteUptoRow.holds Try.pinned (OpenSpec.upto crossPasteSpec)

/-- 'tapeworkslaw.CountChecks', WHERE WHAT IT READS IS OF BULK AT MOST 1048576: true; the input reads as it did. -/
def countChecksUptoRow : OpenClaim := { program := "ytkoenncepcmljaa", sum := "c7b540ebb32f90e7fc07e6a4fd20d4fb935cc5fbde824d8768ba7a1455757d16", func := "tapeworks/tapeworkslaw.CountChecks", spec := "countChecks", unfollowed := true, recurses := true, apart := false, narrowed := true }
def CountChecksUptoSaid : Prop := countChecksUptoRow.holds Try.pinned (OpenSpec.upto countChecksSpec)

/-- 'tapeworkslaw.CountRuns', WHERE WHAT IT READS IS OF BULK AT MOST 1048576: true; the input reads as it did. -/
def countRunsUptoRow : OpenClaim := { program := "ytkoenncepcmljaa", sum := "c7b540ebb32f90e7fc07e6a4fd20d4fb935cc5fbde824d8768ba7a1455757d16", func := "tapeworks/tapeworkslaw.CountRuns", spec := "countRuns", unfollowed := true, recurses := true, apart := false, narrowed := true }
def CountRunsUptoSaid : Prop := countRunsUptoRow.holds Try.pinned (OpenSpec.upto countRunsSpec)

/-- 'tapeworkskeep.CountSum', WHERE WHAT IT READS IS OF BULK AT MOST 1048576: true; the input reads as it did. -/
def countSumUptoRow : OpenClaim := { program := "ytkoenncepcmljaa", sum := "c7b540ebb32f90e7fc07e6a4fd20d4fb935cc5fbde824d8768ba7a1455757d16", func := "tapeworks/tapeworkskeep.CountSum", spec := "countSum", unfollowed := true, recurses := true, apart := false, narrowed := true }
def CountSumUptoSaid : Prop := countSumUptoRow.holds Try.pinned (OpenSpec.upto countSumSpec)

/-- 'tapeworkskeep.CountMove', WHERE WHAT IT READS IS OF BULK AT MOST 1048576: true; the input reads as it did. -/
def countMoveUptoRow : OpenClaim := { program := "ytkoenncepcmljaa", sum := "c7b540ebb32f90e7fc07e6a4fd20d4fb935cc5fbde824d8768ba7a1455757d16", func := "tapeworks/tapeworkskeep.CountMove", spec := "countMove", unfollowed := true, recurses := true, apart := false, narrowed := true }
def CountMoveUptoSaid : Prop := countMoveUptoRow.holds Try.pinned (OpenSpec.upto countMoveSpec)

end Rows
end Go.Proofs.Ytkoenncepcmljaa
