/-
  No cell of these rows narrows 'for every input' (looked for: loops, veiled, ifaces, maps, wideKeys, modest, calm, conditions, laid).
  DERIVED. THE GIVEN ROWS OF THIS SEAT. 10 by the template 'for every input the law returns true; each argument reads behind the call as it read before'; 0 by the template 'total and deterministic' (their statements: YtbbmgippnlfpmaaTotals.lean).
  GIVEN WITH THE SEED: the statements are not yours to turn. If you find one false, say at which input.
  Laid BY PROGRAM, IN A SANDBOX (cutbox-rows.mjs): the forced cells as the released guide's own fill.sh prints them over the translation 5980e530023ddd6a… (all of the seat's roots in one cut). By AI agents, Wed Nov 11 2026. No macro, syntax, notation, axiom, sorry.
-/
import Derived.Test.YtbbmgippnlfpmaaChecked
import GoSem.Claim
import GoSem.ClaimJoined
import GoSem.ClaimMapViews
import Derived.JoinedTies
import Derived.KernelRfl
namespace Go.Proofs.Ytbbmgippnlfpmaa
/- THE CELL 'sum', in the pinned program and in every row, IS THE sha256 OF THE DUMP (.gsa) THAT YtbbmgippnlfpmaaProg.lean LOADS. Nothing in Lean hashes anything: it is a label: what it is worth is what the hold of that sum in a sandbox is worth. -/
noncomputable def Try.pinned : Pinned := { name := "ytbbmgippnlfpmaa", sum := "5980e530023ddd6ac5b1df1e9799a7234dff44c6a29f765937dd70a74d0ebd5e", checked := Try.checked }
namespace Rows
def none {H : Type} : Left H := { results := [], args := [] }

/-- 'tapeworkslaw.TapeChecks': WHATEVER THE INPUT: true; the input reads as it did. -/
def tapeChecksSpec : ChangeSpec := { name := "tapeChecks", fn := fun _ => fun
  | [d] => { results := [.lit (.bool true)], args := [d] }
  | _ => none }
def tapeChecksRow : OpenClaim := { program := "ytbbmgippnlfpmaa", sum := "5980e530023ddd6ac5b1df1e9799a7234dff44c6a29f765937dd70a74d0ebd5e", func := "tapeworks/tapeworkslaw.TapeChecks", spec := "tapeChecks", unfollowed := true, recurses := true, apart := false }
def TapeChecksSaid : Prop := tapeChecksRow.holds Try.pinned (OpenSpec.ofChange tapeChecksSpec)

/-- ITS FALSE NEIGHBOUR: 'it returns false'. Refute it at one input. -/
def tapeChecksWrong : ChangeSpec := { name := "tapeChecks", fn := fun _ => fun
  | [d] => { results := [.lit (.bool false)], args := [d] }
  | _ => none }
def TapeChecksWrongFalsely : Prop := tapeChecksRow.holds Try.pinned (OpenSpec.ofChange tapeChecksWrong)

/-- 'tapeworkslaw.TapeRuns': WHATEVER THE INPUT: true; the input reads as it did. -/
def tapeRunsSpec : ChangeSpec := { name := "tapeRuns", fn := fun _ => fun
  | [d1, d2, d3] => { results := [.lit (.bool true)], args := [d1, d2, d3] }
  | _ => none }
def tapeRunsRow : OpenClaim := { program := "ytbbmgippnlfpmaa", sum := "5980e530023ddd6ac5b1df1e9799a7234dff44c6a29f765937dd70a74d0ebd5e", func := "tapeworks/tapeworkslaw.TapeRuns", spec := "tapeRuns", unfollowed := true, recurses := true, apart := false }
def TapeRunsSaid : Prop := tapeRunsRow.holds Try.pinned (OpenSpec.ofChange tapeRunsSpec)

/-- ITS FALSE NEIGHBOUR: 'it returns false'. Refute it at one input. -/
def tapeRunsWrong : ChangeSpec := { name := "tapeRuns", fn := fun _ => fun
  | [d1, d2, d3] => { results := [.lit (.bool false)], args := [d1, d2, d3] }
  | _ => none }
def TapeRunsWrongFalsely : Prop := tapeRunsRow.holds Try.pinned (OpenSpec.ofChange tapeRunsWrong)

/-- 'tapeworkslaw.TapeGoes': WHATEVER THE INPUT: true; the input reads as it did. -/
def tapeGoesSpec : ChangeSpec := { name := "tapeGoes", fn := fun _ => fun
  | [d1, d2, d3] => { results := [.lit (.bool true)], args := [d1, d2, d3] }
  | _ => none }
def tapeGoesRow : OpenClaim := { program := "ytbbmgippnlfpmaa", sum := "5980e530023ddd6ac5b1df1e9799a7234dff44c6a29f765937dd70a74d0ebd5e", func := "tapeworks/tapeworkslaw.TapeGoes", spec := "tapeGoes", unfollowed := true, recurses := true, apart := false }
def TapeGoesSaid : Prop := tapeGoesRow.holds Try.pinned (OpenSpec.ofChange tapeGoesSpec)

/-- ITS FALSE NEIGHBOUR: 'it returns false'. Refute it at one input. -/
def tapeGoesWrong : ChangeSpec := { name := "tapeGoes", fn := fun _ => fun
  | [d1, d2, d3] => { results := [.lit (.bool false)], args := [d1, d2, d3] }
  | _ => none }
def TapeGoesWrongFalsely : Prop := tapeGoesRow.holds Try.pinned (OpenSpec.ofChange tapeGoesWrong)

/-- 'tapeworkskeep.TapeTwo': WHATEVER THE INPUT: true; the input reads as it did. -/
def tapeTwoSpec : ChangeSpec := { name := "tapeTwo", fn := fun _ => fun
  | [d1, d2, d3, d4] => { results := [.lit (.bool true)], args := [d1, d2, d3, d4] }
  | _ => none }
def tapeTwoRow : OpenClaim := { program := "ytbbmgippnlfpmaa", sum := "5980e530023ddd6ac5b1df1e9799a7234dff44c6a29f765937dd70a74d0ebd5e", func := "tapeworks/tapeworkskeep.TapeTwo", spec := "tapeTwo", unfollowed := true, recurses := true, apart := false }
def TapeTwoSaid : Prop := tapeTwoRow.holds Try.pinned (OpenSpec.ofChange tapeTwoSpec)

/-- ITS FALSE NEIGHBOUR: 'it returns false'. Refute it at one input. -/
def tapeTwoWrong : ChangeSpec := { name := "tapeTwo", fn := fun _ => fun
  | [d1, d2, d3, d4] => { results := [.lit (.bool false)], args := [d1, d2, d3, d4] }
  | _ => none }
def TapeTwoWrongFalsely : Prop := tapeTwoRow.holds Try.pinned (OpenSpec.ofChange tapeTwoWrong)

/-- 'tapeworkskeep.TapeStill': WHATEVER THE INPUT: true; the input reads as it did. -/
def tapeStillSpec : ChangeSpec := { name := "tapeStill", fn := fun _ => fun
  | [d1, d2, d3] => { results := [.lit (.bool true)], args := [d1, d2, d3] }
  | _ => none }
def tapeStillRow : OpenClaim := { program := "ytbbmgippnlfpmaa", sum := "5980e530023ddd6ac5b1df1e9799a7234dff44c6a29f765937dd70a74d0ebd5e", func := "tapeworks/tapeworkskeep.TapeStill", spec := "tapeStill", unfollowed := true, recurses := true, apart := false }
def TapeStillSaid : Prop := tapeStillRow.holds Try.pinned (OpenSpec.ofChange tapeStillSpec)

/-- ITS FALSE NEIGHBOUR: 'it returns false'. Refute it at one input. -/
def tapeStillWrong : ChangeSpec := { name := "tapeStill", fn := fun _ => fun
  | [d1, d2, d3] => { results := [.lit (.bool false)], args := [d1, d2, d3] }
  | _ => none }
def TapeStillWrongFalsely : Prop := tapeStillRow.holds Try.pinned (OpenSpec.ofChange tapeStillWrong)

/-- 'tapeworkskeep.TapeMoved': WHATEVER THE INPUT: true; the input reads as it did. -/
def tapeMovedSpec : ChangeSpec := { name := "tapeMoved", fn := fun _ => fun
  | [d1, d2, d3, d4] => { results := [.lit (.bool true)], args := [d1, d2, d3, d4] }
  | _ => none }
def tapeMovedRow : OpenClaim := { program := "ytbbmgippnlfpmaa", sum := "5980e530023ddd6ac5b1df1e9799a7234dff44c6a29f765937dd70a74d0ebd5e", func := "tapeworks/tapeworkskeep.TapeMoved", spec := "tapeMoved", unfollowed := true, recurses := true, apart := false }
def TapeMovedSaid : Prop := tapeMovedRow.holds Try.pinned (OpenSpec.ofChange tapeMovedSpec)

/-- ITS FALSE NEIGHBOUR: 'it returns false'. Refute it at one input. -/
def tapeMovedWrong : ChangeSpec := { name := "tapeMoved", fn := fun _ => fun
  | [d1, d2, d3, d4] => { results := [.lit (.bool false)], args := [d1, d2, d3, d4] }
  | _ => none }
def TapeMovedWrongFalsely : Prop := tapeMovedRow.holds Try.pinned (OpenSpec.ofChange tapeMovedWrong)

/-- 'tapeworkslaw.CrossOver': WHATEVER THE INPUT: true; the input reads as it did. -/
def crossOverSpec : ChangeSpec := { name := "crossOver", fn := fun _ => fun
  | [d1, d2, d3, d4] => { results := [.lit (.bool true)], args := [d1, d2, d3, d4] }
  | _ => none }
def crossOverRow : OpenClaim := { program := "ytbbmgippnlfpmaa", sum := "5980e530023ddd6ac5b1df1e9799a7234dff44c6a29f765937dd70a74d0ebd5e", func := "tapeworks/tapeworkslaw.CrossOver", spec := "crossOver", unfollowed := true, recurses := true, apart := false }
def CrossOverSaid : Prop := crossOverRow.holds Try.pinned (OpenSpec.ofChange crossOverSpec)

/-- ITS FALSE NEIGHBOUR: 'it returns false'. Refute it at one input. -/
def crossOverWrong : ChangeSpec := { name := "crossOver", fn := fun _ => fun
  | [d1, d2, d3, d4] => { results := [.lit (.bool false)], args := [d1, d2, d3, d4] }
  | _ => none }
def CrossOverWrongFalsely : Prop := crossOverRow.holds Try.pinned (OpenSpec.ofChange crossOverWrong)

/-- 'tapeworkslaw.CrossAlls': WHATEVER THE INPUT: true; the input reads as it did. -/
def crossAllsSpec : ChangeSpec := { name := "crossAlls", fn := fun _ => fun
  | [d1, d2, d3] => { results := [.lit (.bool true)], args := [d1, d2, d3] }
  | _ => none }
def crossAllsRow : OpenClaim := { program := "ytbbmgippnlfpmaa", sum := "5980e530023ddd6ac5b1df1e9799a7234dff44c6a29f765937dd70a74d0ebd5e", func := "tapeworks/tapeworkslaw.CrossAlls", spec := "crossAlls", unfollowed := true, recurses := true, apart := false }
def CrossAllsSaid : Prop := crossAllsRow.holds Try.pinned (OpenSpec.ofChange crossAllsSpec)

/-- ITS FALSE NEIGHBOUR: 'it returns false'. Refute it at one input. -/
def crossAllsWrong : ChangeSpec := { name := "crossAlls", fn := fun _ => fun
  | [d1, d2, d3] => { results := [.lit (.bool false)], args := [d1, d2, d3] }
  | _ => none }
def CrossAllsWrongFalsely : Prop := crossAllsRow.holds Try.pinned (OpenSpec.ofChange crossAllsWrong)

/-- 'tapeworkskeep.CrossTurns': WHATEVER THE INPUT: true; the input reads as it did. -/
def crossTurnsSpec : ChangeSpec := { name := "crossTurns", fn := fun _ => fun
  | [d1, d2, d3] => { results := [.lit (.bool true)], args := [d1, d2, d3] }
  | _ => none }
def crossTurnsRow : OpenClaim := { program := "ytbbmgippnlfpmaa", sum := "5980e530023ddd6ac5b1df1e9799a7234dff44c6a29f765937dd70a74d0ebd5e", func := "tapeworks/tapeworkskeep.CrossTurns", spec := "crossTurns", unfollowed := true, recurses := true, apart := false }
def CrossTurnsSaid : Prop := crossTurnsRow.holds Try.pinned (OpenSpec.ofChange crossTurnsSpec)

/-- ITS FALSE NEIGHBOUR: 'it returns false'. Refute it at one input. -/
def crossTurnsWrong : ChangeSpec := { name := "crossTurns", fn := fun _ => fun
  | [d1, d2, d3] => { results := [.lit (.bool false)], args := [d1, d2, d3] }
  | _ => none }
def CrossTurnsWrongFalsely : Prop := crossTurnsRow.holds Try.pinned (OpenSpec.ofChange crossTurnsWrong)

/-- 'tapeworkskeep.CrossPaste': WHATEVER THE INPUT: true; the input reads as it did. -/
def crossPasteSpec : ChangeSpec := { name := "crossPaste", fn := fun _ => fun
  | [d1, d2, d3, d4, d5] => { results := [.lit (.bool true)], args := [d1, d2, d3, d4, d5] }
  | _ => none }
def crossPasteRow : OpenClaim := { program := "ytbbmgippnlfpmaa", sum := "5980e530023ddd6ac5b1df1e9799a7234dff44c6a29f765937dd70a74d0ebd5e", func := "tapeworks/tapeworkskeep.CrossPaste", spec := "crossPaste", unfollowed := true, recurses := true, apart := false }
def CrossPasteSaid : Prop := crossPasteRow.holds Try.pinned (OpenSpec.ofChange crossPasteSpec)

/-- ITS FALSE NEIGHBOUR: 'it returns false'. Refute it at one input. -/
def crossPasteWrong : ChangeSpec := { name := "crossPaste", fn := fun _ => fun
  | [d1, d2, d3, d4, d5] => { results := [.lit (.bool false)], args := [d1, d2, d3, d4, d5] }
  | _ => none }
def CrossPasteWrongFalsely : Prop := crossPasteRow.holds Try.pinned (OpenSpec.ofChange crossPasteWrong)

/- THE SECOND FORM. 'bulk': how many values and letters a reading holds, each counted each time it is reached (what is shared counts as often as it is met; a slice's spare places count too). A statement '..UptoSaid' is the law's where the arguments, and the package variables that the reading takes, are together of bulk at most 1048576: NARROWER than '..Said'. Prove '..Said' where nothing that the law and all that it calls make is longer than what came in: it says more and counts as full. Else prove '..UptoSaid'. A law counts once. -/
mutual
def uptoBulk {H : Type} : DataW H → Nat
  | .lit (.string bytes) => bytes.length + 1
  | .lit _ => 1
  | .nil => 1
  | .ptr d => uptoBulk d + 1
  | .slice elems spare => uptoBulkAll elems + uptoBulkAll spare + 1
  | .agg parts => uptoBulkAll parts + 1
  | .iface _ d => uptoBulk d + 1
  | .map entries => uptoBulkEntries entries + 1
  | .held _ => 1
def uptoBulkAll {H : Type} : List (DataW H) → Nat
  | [] => 0
  | d :: r => uptoBulk d + uptoBulkAll r
def uptoBulkEntries {H : Type} : List (Lit × DataW H) → Nat
  | [] => 0
  | x :: r => uptoBulkEntry x + uptoBulkEntries r
def uptoBulkEntry {H : Type} : Lit × DataW H → Nat
  | (.string bytes, d) => bytes.length + uptoBulk d + 1
  | (_, d) => uptoBulk d + 1
 end
def uptoSmall : (H : Type) → List (DataW H) → Bool := fun _ ds => decide (uptoBulkAll ds ≤ 1048576)
def OpenSpec.upto (s : _root_.Go.ChangeSpec) : _root_.Go.OpenSpec := { _root_.Go.OpenSpec.ofChange s with cond := some uptoSmall }

/-- 'tapeworkslaw.TapeChecks', WHERE WHAT IT READS IS OF BULK AT MOST 1048576: true; the input reads as it did. -/
def tapeChecksUptoRow : OpenClaim := { program := "ytbbmgippnlfpmaa", sum := "5980e530023ddd6ac5b1df1e9799a7234dff44c6a29f765937dd70a74d0ebd5e", func := "tapeworks/tapeworkslaw.TapeChecks", spec := "tapeChecks", unfollowed := true, recurses := true, apart := false, narrowed := true }
def TapeChecksUptoSaid : Prop := tapeChecksUptoRow.holds Try.pinned (OpenSpec.upto tapeChecksSpec)

/-- 'tapeworkslaw.TapeRuns', WHERE WHAT IT READS IS OF BULK AT MOST 1048576: true; the input reads as it did. -/
def tapeRunsUptoRow : OpenClaim := { program := "ytbbmgippnlfpmaa", sum := "5980e530023ddd6ac5b1df1e9799a7234dff44c6a29f765937dd70a74d0ebd5e", func := "tapeworks/tapeworkslaw.TapeRuns", spec := "tapeRuns", unfollowed := true, recurses := true, apart := false, narrowed := true }
def TapeRunsUptoSaid : Prop := tapeRunsUptoRow.holds Try.pinned (OpenSpec.upto tapeRunsSpec)

/-- 'tapeworkslaw.TapeGoes', WHERE WHAT IT READS IS OF BULK AT MOST 1048576: true; the input reads as it did. -/
def tapeGoesUptoRow : OpenClaim := { program := "ytbbmgippnlfpmaa", sum := "5980e530023ddd6ac5b1df1e9799a7234dff44c6a29f765937dd70a74d0ebd5e", func := "tapeworks/tapeworkslaw.TapeGoes", spec := "tapeGoes", unfollowed := true, recurses := true, apart := false, narrowed := true }
def TapeGoesUptoSaid : Prop := tapeGoesUptoRow.holds Try.pinned (OpenSpec.upto tapeGoesSpec)

/-- 'tapeworkskeep.TapeTwo', WHERE WHAT IT READS IS OF BULK AT MOST 1048576: true; the input reads as it did. -/
def tapeTwoUptoRow : OpenClaim := { program := "ytbbmgippnlfpmaa", sum := "5980e530023ddd6ac5b1df1e9799a7234dff44c6a29f765937dd70a74d0ebd5e", func := "tapeworks/tapeworkskeep.TapeTwo", spec := "tapeTwo", unfollowed := true, recurses := true, apart := false, narrowed := true }
def TapeTwoUptoSaid : Prop := tapeTwoUptoRow.holds Try.pinned (OpenSpec.upto tapeTwoSpec)

/-- 'tapeworkskeep.TapeStill', WHERE WHAT IT READS IS OF BULK AT MOST 1048576: true; the input reads as it did. -/
def tapeStillUptoRow : OpenClaim := { program := "ytbbmgippnlfpmaa", sum := "5980e530023ddd6ac5b1df1e9799a7234dff44c6a29f765937dd70a74d0ebd5e", func := "tapeworks/tapeworkskeep.TapeStill", spec := "tapeStill", unfollowed := true, recurses := true, apart := false, narrowed := true }
def TapeStillUptoSaid : Prop := tapeStillUptoRow.holds Try.pinned (OpenSpec.upto tapeStillSpec)

/-- 'tapeworkskeep.TapeMoved', WHERE WHAT IT READS IS OF BULK AT MOST 1048576: true; the input reads as it did. -/
def tapeMovedUptoRow : OpenClaim := { program := "ytbbmgippnlfpmaa", sum := "5980e530023ddd6ac5b1df1e9799a7234dff44c6a29f765937dd70a74d0ebd5e", func := "tapeworks/tapeworkskeep.TapeMoved", spec := "tapeMoved", unfollowed := true, recurses := true, apart := false, narrowed := true }
def TapeMovedUptoSaid : Prop := tapeMovedUptoRow.holds Try.pinned (OpenSpec.upto tapeMovedSpec)

/-- 'tapeworkslaw.CrossOver', WHERE WHAT IT READS IS OF BULK AT MOST 1048576: true; the input reads as it did. -/
def crossOverUptoRow : OpenClaim := { program := "ytbbmgippnlfpmaa", sum := "5980e530023ddd6ac5b1df1e9799a7234dff44c6a29f765937dd70a74d0ebd5e", func := "tapeworks/tapeworkslaw.CrossOver", spec := "crossOver", unfollowed := true, recurses := true, apart := false, narrowed := true }
def CrossOverUptoSaid : Prop := crossOverUptoRow.holds Try.pinned (OpenSpec.upto crossOverSpec)

/-- 'tapeworkslaw.CrossAlls', WHERE WHAT IT READS IS OF BULK AT MOST 1048576: true; the input reads as it did. -/
def crossAllsUptoRow : OpenClaim := { program := "ytbbmgippnlfpmaa", sum := "5980e530023ddd6ac5b1df1e9799a7234dff44c6a29f765937dd70a74d0ebd5e", func := "tapeworks/tapeworkslaw.CrossAlls", spec := "crossAlls", unfollowed := true, recurses := true, apart := false, narrowed := true }
def CrossAllsUptoSaid : Prop := crossAllsUptoRow.holds Try.pinned (OpenSpec.upto crossAllsSpec)

/-- 'tapeworkskeep.CrossTurns', WHERE WHAT IT READS IS OF BULK AT MOST 1048576: true; the input reads as it did. -/
def crossTurnsUptoRow : OpenClaim := { program := "ytbbmgippnlfpmaa", sum := "5980e530023ddd6ac5b1df1e9799a7234dff44c6a29f765937dd70a74d0ebd5e", func := "tapeworks/tapeworkskeep.CrossTurns", spec := "crossTurns", unfollowed := true, recurses := true, apart := false, narrowed := true }
def CrossTurnsUptoSaid : Prop := crossTurnsUptoRow.holds Try.pinned (OpenSpec.upto crossTurnsSpec)

/-- 'tapeworkskeep.CrossPaste', WHERE WHAT IT READS IS OF BULK AT MOST 1048576: true; the input reads as it did. -/
def crossPasteUptoRow : OpenClaim := { program := "ytbbmgippnlfpmaa", sum := "5980e530023ddd6ac5b1df1e9799a7234dff44c6a29f765937dd70a74d0ebd5e", func := "tapeworks/tapeworkskeep.CrossPaste", spec := "crossPaste", unfollowed := true, recurses := true, apart := false, narrowed := true }
def CrossPasteUptoSaid : Prop := crossPasteUptoRow.holds Try.pinned (OpenSpec.upto crossPasteSpec)

end Rows
end Go.Proofs.Ytbbmgippnlfpmaa
