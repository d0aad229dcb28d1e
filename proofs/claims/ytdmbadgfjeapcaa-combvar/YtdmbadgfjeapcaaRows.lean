/-
  No cell of these rows narrows 'for every input' (looked for: loops, veiled, ifaces, maps, wideKeys, modest, calm, conditions, laid).
  DERIVED. THE GIVEN ROWS OF THIS SEAT. 7 by the template 'for every input the law returns true; each argument reads behind the call as it read before'; 0 by the template 'total and deterministic' (their statements: YtdmbadgfjeapcaaTotals.lean).
  GIVEN WITH THE SEED: the statements are not yours to turn. If you find one false, say at which input.
  Laid BY PROGRAM, IN A SANDBOX (cutbox-rows.mjs): the forced cells as the released guide's own fill.sh prints them over the translation 94c298ee90dd3353… (all of the seat's roots in one cut). By AI agents, Wed Nov 11 2026. No macro, syntax, notation, axiom, sorry.
-/
import Derived.Test.YtdmbadgfjeapcaaChecked
import GoSem.Claim
import GoSem.ClaimJoined
import GoSem.ClaimMapViews
import Derived.JoinedTies
import Derived.KernelRfl
namespace Go.Proofs.Ytdmbadgfjeapcaa
/- THE CELL 'sum', in the pinned program and in every row, IS THE sha256 OF THE DUMP (.gsa) THAT YtdmbadgfjeapcaaProg.lean LOADS. Nothing in Lean hashes anything: it is a label: what it is worth is what the hold of that sum in a sandbox is worth. -/
noncomputable def Try.pinned : Pinned := { name := "ytdmbadgfjeapcaa", sum := "94c298ee90dd3353b44a2c3b325f9acc82df4797296cc38fda2c28f1c4f003c8", checked := Try.checked }
namespace Rows
def none {H : Type} : Left H := { results := [], args := [] }

/-- 'tapeworkslaw.CombChecks': WHATEVER THE INPUT: true; the input reads as it did. -/
def combChecksSpec : ChangeSpec := { name := "combChecks", fn := fun _ => fun
  | [d] => { results := [.lit (.bool true)], args := [d] }
  | _ => none }
def combChecksRow : OpenClaim := { program := "ytdmbadgfjeapcaa", sum := "94c298ee90dd3353b44a2c3b325f9acc82df4797296cc38fda2c28f1c4f003c8", func := "tapeworks/tapeworkslaw.CombChecks", spec := "combChecks", unfollowed := true, recurses := true, apart := false }
def CombChecksSaid : Prop := combChecksRow.holds Try.pinned (OpenSpec.ofChange combChecksSpec)

/-- ITS FALSE NEIGHBOUR: 'it returns false'. Refute it at one input. -/
def combChecksWrong : ChangeSpec := { name := "combChecks", fn := fun _ => fun
  | [d] => { results := [.lit (.bool false)], args := [d] }
  | _ => none }
def CombChecksWrongFalsely : Prop := combChecksRow.holds Try.pinned (OpenSpec.ofChange combChecksWrong)

/-- 'tapeworkslaw.CombSteps': WHATEVER THE INPUT: true; the input reads as it did. -/
def combStepsSpec : ChangeSpec := { name := "combSteps", fn := fun _ => fun
  | [d] => { results := [.lit (.bool true)], args := [d] }
  | _ => none }
def combStepsRow : OpenClaim := { program := "ytdmbadgfjeapcaa", sum := "94c298ee90dd3353b44a2c3b325f9acc82df4797296cc38fda2c28f1c4f003c8", func := "tapeworks/tapeworkslaw.CombSteps", spec := "combSteps", unfollowed := true, recurses := true, apart := false }
def CombStepsSaid : Prop := combStepsRow.holds Try.pinned (OpenSpec.ofChange combStepsSpec)

/-- ITS FALSE NEIGHBOUR: 'it returns false'. Refute it at one input. -/
def combStepsWrong : ChangeSpec := { name := "combSteps", fn := fun _ => fun
  | [d] => { results := [.lit (.bool false)], args := [d] }
  | _ => none }
def CombStepsWrongFalsely : Prop := combStepsRow.holds Try.pinned (OpenSpec.ofChange combStepsWrong)

/-- 'tapeworkslaw.CombNorms': WHATEVER THE INPUT: true; the input reads as it did. -/
def combNormsSpec : ChangeSpec := { name := "combNorms", fn := fun _ => fun
  | [d1, d2] => { results := [.lit (.bool true)], args := [d1, d2] }
  | _ => none }
def combNormsRow : OpenClaim := { program := "ytdmbadgfjeapcaa", sum := "94c298ee90dd3353b44a2c3b325f9acc82df4797296cc38fda2c28f1c4f003c8", func := "tapeworks/tapeworkslaw.CombNorms", spec := "combNorms", unfollowed := true, recurses := true, apart := false }
def CombNormsSaid : Prop := combNormsRow.holds Try.pinned (OpenSpec.ofChange combNormsSpec)

/-- ITS FALSE NEIGHBOUR: 'it returns false'. Refute it at one input. -/
def combNormsWrong : ChangeSpec := { name := "combNorms", fn := fun _ => fun
  | [d1, d2] => { results := [.lit (.bool false)], args := [d1, d2] }
  | _ => none }
def CombNormsWrongFalsely : Prop := combNormsRow.holds Try.pinned (OpenSpec.ofChange combNormsWrong)

/-- 'tapeworkslaw.CombOuts': WHATEVER THE INPUT: true; the input reads as it did. -/
def combOutsSpec : ChangeSpec := { name := "combOuts", fn := fun _ => fun
  | [d1, d2] => { results := [.lit (.bool true)], args := [d1, d2] }
  | _ => none }
def combOutsRow : OpenClaim := { program := "ytdmbadgfjeapcaa", sum := "94c298ee90dd3353b44a2c3b325f9acc82df4797296cc38fda2c28f1c4f003c8", func := "tapeworks/tapeworkslaw.CombOuts", spec := "combOuts", unfollowed := true, recurses := true, apart := false }
def CombOutsSaid : Prop := combOutsRow.holds Try.pinned (OpenSpec.ofChange combOutsSpec)

/-- ITS FALSE NEIGHBOUR: 'it returns false'. Refute it at one input. -/
def combOutsWrong : ChangeSpec := { name := "combOuts", fn := fun _ => fun
  | [d1, d2] => { results := [.lit (.bool false)], args := [d1, d2] }
  | _ => none }
def CombOutsWrongFalsely : Prop := combOutsRow.holds Try.pinned (OpenSpec.ofChange combOutsWrong)

/-- 'tapeworkskeep.CombVar': WHATEVER THE INPUT: true; the input reads as it did. -/
def combVarSpec : ChangeSpec := { name := "combVar", fn := fun _ => fun
  | [d1, d2, d3] => { results := [.lit (.bool true)], args := [d1, d2, d3] }
  | _ => none }
def combVarRow : OpenClaim := { program := "ytdmbadgfjeapcaa", sum := "94c298ee90dd3353b44a2c3b325f9acc82df4797296cc38fda2c28f1c4f003c8", func := "tapeworks/tapeworkskeep.CombVar", spec := "combVar", unfollowed := true, recurses := true, apart := false }
def CombVarSaid : Prop := combVarRow.holds Try.pinned (OpenSpec.ofChange combVarSpec)

/-- ITS FALSE NEIGHBOUR: 'it returns false'. Refute it at one input. -/
def combVarWrong : ChangeSpec := { name := "combVar", fn := fun _ => fun
  | [d1, d2, d3] => { results := [.lit (.bool false)], args := [d1, d2, d3] }
  | _ => none }
def CombVarWrongFalsely : Prop := combVarRow.holds Try.pinned (OpenSpec.ofChange combVarWrong)

/-- 'tapeworkskeep.CombOut': WHATEVER THE INPUT: true; the input reads as it did. -/
def combOutSpec : ChangeSpec := { name := "combOut", fn := fun _ => fun
  | [d1, d2, d3] => { results := [.lit (.bool true)], args := [d1, d2, d3] }
  | _ => none }
def combOutRow : OpenClaim := { program := "ytdmbadgfjeapcaa", sum := "94c298ee90dd3353b44a2c3b325f9acc82df4797296cc38fda2c28f1c4f003c8", func := "tapeworks/tapeworkskeep.CombOut", spec := "combOut", unfollowed := true, recurses := true, apart := false }
def CombOutSaid : Prop := combOutRow.holds Try.pinned (OpenSpec.ofChange combOutSpec)

/-- ITS FALSE NEIGHBOUR: 'it returns false'. Refute it at one input. -/
def combOutWrong : ChangeSpec := { name := "combOut", fn := fun _ => fun
  | [d1, d2, d3] => { results := [.lit (.bool false)], args := [d1, d2, d3] }
  | _ => none }
def CombOutWrongFalsely : Prop := combOutRow.holds Try.pinned (OpenSpec.ofChange combOutWrong)

/-- 'tapeworkskeep.CombSelf': WHATEVER THE INPUT: true; the input reads as it did. -/
def combSelfSpec : ChangeSpec := { name := "combSelf", fn := fun _ => fun
  | [d] => { results := [.lit (.bool true)], args := [d] }
  | _ => none }
def combSelfRow : OpenClaim := { program := "ytdmbadgfjeapcaa", sum := "94c298ee90dd3353b44a2c3b325f9acc82df4797296cc38fda2c28f1c4f003c8", func := "tapeworks/tapeworkskeep.CombSelf", spec := "combSelf", unfollowed := true, recurses := true, apart := false }
def CombSelfSaid : Prop := combSelfRow.holds Try.pinned (OpenSpec.ofChange combSelfSpec)

/-- ITS FALSE NEIGHBOUR: 'it returns false'. Refute it at one input. -/
def combSelfWrong : ChangeSpec := { name := "combSelf", fn := fun _ => fun
  | [d] => { results := [.lit (.bool false)], args := [d] }
  | _ => none }
def CombSelfWrongFalsely : Prop := combSelfRow.holds Try.pinned (OpenSpec.ofChange combSelfWrong)

/- THE SECOND FORM. 'bulk': how many values and letters a reading holds, each counted each time it is reached (what is shared counts as often as it is met; a slice's spare places count too). A statement '..UptoSaid' is the law's where the arguments, and the package variables that the reading takes, are together of bulk at most 1048576: NARROWER than '..Said'. Prove '..Said' where nothing that the law and all that it calls make is longer than what came in: it says more and counts as full. Else prove '..UptoSaid'. A law counts once. -/
mutual
def uptoBulk {H : Type} : DataW H → Nat
  | .lit (.string bytes) => bytes.length + 1
  | .lit _ => 1
  | .nil => 1
  | .ptr d => uptoBulk d + 1
  | .slice elems spare => uptoBulkAll elems + uptoBulkAll spare + 1
  | .agg parts => uptoBulkAll parts + 1
  | .iface _ d => uptoBulk d + 1
  | .map entries => uptoBulkEntries entries + 1
  | .held _ => 1
def uptoBulkAll {H : Type} : List (DataW H) → Nat
  | [] => 0
  | d :: r => uptoBulk d + uptoBulkAll r
def uptoBulkEntries {H : Type} : List (Lit × DataW H) → Nat
  | [] => 0
  | x :: r => uptoBulkEntry x + uptoBulkEntries r
def uptoBulkEntry {H : Type} : Lit × DataW H → Nat
  | (.string bytes, d) => bytes.length + uptoBulk d + 1
  | (_, d) => uptoBulk d + 1
 end
def uptoSmall : (H : Type) → List (DataW H) → Bool := fun _ ds => decide (uptoBulkAll ds ≤ 1048576)
def OpenSpec.upto (s : _root_.Go.ChangeSpec) : _root_.Go.OpenSpec := { _root_.Go.OpenSpec.ofChange s with cond := some uptoSmall }

/-- 'tapeworkslaw.CombChecks', WHERE WHAT IT READS IS OF BULK AT MOST 1048576: true; the input reads as it did. -/
def combChecksUptoRow : OpenClaim := { program := "ytdmbadgfjeapcaa", sum := "94c298ee90dd3353b44a2c3b325f9acc82df4797296cc38fda2c28f1c4f003c8", func := "tapeworks/tapeworkslaw.CombChecks", spec := "combChecks", unfollowed := true, recurses := true, apart := false, narrowed := true }
def CombChecksUptoSaid : Prop := combChecksUptoRow.holds Try.pinned (OpenSpec.upto combChecksSpec)

/-- 'tapeworkslaw.CombSteps', WHERE WHAT IT READS IS OF BULK AT MOST 1048576: true; the input reads as it did. -/
def combStepsUptoRow : OpenClaim := { program := "ytdmbadgfjeapcaa", sum := "94c298ee90dd3353b44a2c3b325f9acc82df4797296cc38fda2c28f1c4f003c8", func := "tapeworks/tapeworkslaw.CombSteps", spec := "combSteps", unfollowed := true, recurses := true, apart := false, narrowed := true }
def CombStepsUptoSaid : Prop := combStepsUptoRow.holds Try.pinned (OpenSpec.upto combStepsSpec)

/-- 'tapeworkslaw.CombNorms', WHERE WHAT IT READS IS OF BULK AT MOST 1048576: true; the input reads as it did. -/
def combNormsUptoRow : OpenClaim := { program := "ytdmbadgfjeapcaa", sum := "94c298ee90dd3353b44a2c3b325f9acc82df4797296cc38fda2c28f1c4f003c8", func := "tapeworks/tapeworkslaw.CombNorms", spec := "combNorms", unfollowed := true, recurses := true, apart := false, narrowed := true }
def CombNormsUptoSaid : Prop := combNormsUptoRow.holds Try.pinned (OpenSpec.upto combNormsSpec)

/-- 'tapeworkslaw.CombOuts', WHERE WHAT IT READS IS OF BULK AT MOST 1048576: true; the input reads as it did. -/
def combOutsUptoRow : OpenClaim := { program := "ytdmbadgfjeapcaa", sum := "94c298ee90dd3353b44a2c3b325f9acc82df4797296cc38fda2c28f1c4f003c8", func := "tapeworks/tapeworkslaw.CombOuts", spec := "combOuts", unfollowed := true, recurses := true, apart := false, narrowed := true }
def CombOutsUptoSaid : Prop := combOutsUptoRow.holds Try.pinned (OpenSpec.upto combOutsSpec)

/-- 'tapeworkskeep.CombVar', WHERE WHAT IT READS IS OF BULK AT MOST 1048576: true; the input reads as it did. -/
def combVarUptoRow : OpenClaim := { program := "ytdmbadgfjeapcaa", sum := "94c298ee90dd3353b44a2c3b325f9acc82df4797296cc38fda2c28f1c4f003c8", func := "tapeworks/tapeworkskeep.CombVar", spec := "combVar", unfollowed := true, recurses := true, apart := false, narrowed := true }
def CombVarUptoSaid : Prop := combVarUptoRow.holds Try.pinned (OpenSpec.upto combVarSpec)

/-- 'tapeworkskeep.CombOut', WHERE WHAT IT READS IS OF BULK AT MOST 1048576: true; the input reads as it did. -/
def combOutUptoRow : OpenClaim := { program := "ytdmbadgfjeapcaa", sum := "94c298ee90dd3353b44a2c3b325f9acc82df4797296cc38fda2c28f1c4f003c8", func := "tapeworks/tapeworkskeep.CombOut", spec := "combOut", unfollowed := true, recurses := true, apart := false, narrowed := true }
def CombOutUptoSaid : Prop := combOutUptoRow.holds Try.pinned (OpenSpec.upto combOutSpec)

/-- 'tapeworkskeep.CombSelf', WHERE WHAT IT READS IS OF BULK AT MOST 1048576: true; the input reads as it did. -/
def combSelfUptoRow : OpenClaim := { program := "ytdmbadgfjeapcaa", sum := "94c298ee90dd3353b44a2c3b325f9acc82df4797296cc38fda2c28f1c4f003c8", func := "tapeworks/tapeworkskeep.CombSelf", spec := "combSelf", unfollowed := true, recurses := true, apart := false, narrowed := true }
def CombSelfUptoSaid : Prop := combSelfUptoRow.holds Try.pinned (OpenSpec.upto combSelfSpec)

end Rows
end Go.Proofs.Ytdmbadgfjeapcaa
