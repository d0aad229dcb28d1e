/-
  No cell of these rows narrows 'for every input' (looked for: loops, veiled, ifaces, maps, wideKeys, modest, calm, conditions, laid).
  DERIVED. THE GIVEN ROWS OF THIS SEAT. 8 by the template 'for every input the law returns true; each argument reads behind the call as it read before'; 0 by the template 'total and deterministic' (their statements: YtelcipdpfoipiaaTotals.lean).
  GIVEN WITH THE SEED: the statements are not yours to turn. If you find one false, say at which input.
  Laid BY PROGRAM, IN A SANDBOX (cutbox-rows.mjs): the forced cells as the released guide's own fill.sh prints them over the translation 61030ae0c8f3a05a… (all of the seat's roots in one cut). By AI agents, Wed Nov 11 2026. No macro, syntax, notation, axiom, sorry.
-/
import Derived.Test.YtelcipdpfoipiaaChecked
import GoSem.Claim
import GoSem.ClaimJoined
import GoSem.ClaimMapViews
import Derived.JoinedTies
import Derived.KernelRfl
namespace Go.Proofs.Ytelcipdpfoipiaa
/- THE CELL 'sum', in the pinned program and in every row, IS THE sha256 OF THE DUMP (.gsa) THAT YtelcipdpfoipiaaProg.lean LOADS. Nothing in Lean hashes anything: it is a label: what it is worth is what the hold of that sum in a sandbox is worth. -/
noncomputable def Try.pinned : Pinned := { name := "ytelcipdpfoipiaa", sum := "61030ae0c8f3a05a131f536a42e16222b8b6f6a9af32fa59ef3fbdf2775ecd19", checked := Try.checked }
namespace Rows
def none {H : Type} : Left H := { results := [], args := [] }

/-- 'tapeworkslaw.GateChecks': WHATEVER THE INPUT: true; the input reads as it did. -/
def gateChecksSpec : ChangeSpec := { name := "gateChecks", fn := fun _ => fun
  | [d1, d2] => { results := [.lit (.bool true)], args := [d1, d2] }
  | _ => none }
def gateChecksRow : OpenClaim := { program := "ytelcipdpfoipiaa", sum := "61030ae0c8f3a05a131f536a42e16222b8b6f6a9af32fa59ef3fbdf2775ecd19", func := "tapeworks/tapeworkslaw.GateChecks", spec := "gateChecks", unfollowed := true, recurses := true, plainKeys := false, apart := false }
def GateChecksSaid : Prop := gateChecksRow.holds Try.pinned (OpenSpec.ofChange gateChecksSpec)

/-- ITS FALSE NEIGHBOUR: 'it returns false'. Refute it at one input. -/
def gateChecksWrong : ChangeSpec := { name := "gateChecks", fn := fun _ => fun
  | [d1, d2] => { results := [.lit (.bool false)], args := [d1, d2] }
  | _ => none }
def GateChecksWrongFalsely : Prop := gateChecksRow.holds Try.pinned (OpenSpec.ofChange gateChecksWrong)

/-- 'tapeworkslaw.GateValues': WHATEVER THE INPUT: true; the input reads as it did. -/
def gateValuesSpec : ChangeSpec := { name := "gateValues", fn := fun _ => fun
  | [d1, d2, d3] => { results := [.lit (.bool true)], args := [d1, d2, d3] }
  | _ => none }
def gateValuesRow : OpenClaim := { program := "ytelcipdpfoipiaa", sum := "61030ae0c8f3a05a131f536a42e16222b8b6f6a9af32fa59ef3fbdf2775ecd19", func := "tapeworks/tapeworkslaw.GateValues", spec := "gateValues", unfollowed := true, recurses := true, plainKeys := false, apart := false }
def GateValuesSaid : Prop := gateValuesRow.holds Try.pinned (OpenSpec.ofChange gateValuesSpec)

/-- ITS FALSE NEIGHBOUR: 'it returns false'. Refute it at one input. -/
def gateValuesWrong : ChangeSpec := { name := "gateValues", fn := fun _ => fun
  | [d1, d2, d3] => { results := [.lit (.bool false)], args := [d1, d2, d3] }
  | _ => none }
def GateValuesWrongFalsely : Prop := gateValuesRow.holds Try.pinned (OpenSpec.ofChange gateValuesWrong)

/-- 'tapeworkslaw.GateDeeps': WHATEVER THE INPUT: true; the input reads as it did. -/
def gateDeepsSpec : ChangeSpec := { name := "gateDeeps", fn := fun _ => fun
  | [d1, d2] => { results := [.lit (.bool true)], args := [d1, d2] }
  | _ => none }
def gateDeepsRow : OpenClaim := { program := "ytelcipdpfoipiaa", sum := "61030ae0c8f3a05a131f536a42e16222b8b6f6a9af32fa59ef3fbdf2775ecd19", func := "tapeworks/tapeworkslaw.GateDeeps", spec := "gateDeeps", unfollowed := true, recurses := true, plainKeys := false, apart := false }
def GateDeepsSaid : Prop := gateDeepsRow.holds Try.pinned (OpenSpec.ofChange gateDeepsSpec)

/-- ITS FALSE NEIGHBOUR: 'it returns false'. Refute it at one input. -/
def gateDeepsWrong : ChangeSpec := { name := "gateDeeps", fn := fun _ => fun
  | [d1, d2] => { results := [.lit (.bool false)], args := [d1, d2] }
  | _ => none }
def GateDeepsWrongFalsely : Prop := gateDeepsRow.holds Try.pinned (OpenSpec.ofChange gateDeepsWrong)

/-- 'tapeworkslaw.GateBuilds': WHATEVER THE INPUT: true; the input reads as it did. -/
def gateBuildsSpec : ChangeSpec := { name := "gateBuilds", fn := fun _ => fun
  | [d1, d2] => { results := [.lit (.bool true)], args := [d1, d2] }
  | _ => none }
def gateBuildsRow : OpenClaim := { program := "ytelcipdpfoipiaa", sum := "61030ae0c8f3a05a131f536a42e16222b8b6f6a9af32fa59ef3fbdf2775ecd19", func := "tapeworks/tapeworkslaw.GateBuilds", spec := "gateBuilds", unfollowed := true, recurses := true, plainKeys := false, apart := false }
def GateBuildsSaid : Prop := gateBuildsRow.holds Try.pinned (OpenSpec.ofChange gateBuildsSpec)

/-- ITS FALSE NEIGHBOUR: 'it returns false'. Refute it at one input. -/
def gateBuildsWrong : ChangeSpec := { name := "gateBuilds", fn := fun _ => fun
  | [d1, d2] => { results := [.lit (.bool false)], args := [d1, d2] }
  | _ => none }
def GateBuildsWrongFalsely : Prop := gateBuildsRow.holds Try.pinned (OpenSpec.ofChange gateBuildsWrong)

/-- 'tapeworkslaw.GateTurns': WHATEVER THE INPUT: true; the input reads as it did. -/
def gateTurnsSpec : ChangeSpec := { name := "gateTurns", fn := fun _ => fun
  | [d1, d2] => { results := [.lit (.bool true)], args := [d1, d2] }
  | _ => none }
def gateTurnsRow : OpenClaim := { program := "ytelcipdpfoipiaa", sum := "61030ae0c8f3a05a131f536a42e16222b8b6f6a9af32fa59ef3fbdf2775ecd19", func := "tapeworks/tapeworkslaw.GateTurns", spec := "gateTurns", unfollowed := true, recurses := true, plainKeys := false, apart := false }
def GateTurnsSaid : Prop := gateTurnsRow.holds Try.pinned (OpenSpec.ofChange gateTurnsSpec)

/-- ITS FALSE NEIGHBOUR: 'it returns false'. Refute it at one input. -/
def gateTurnsWrong : ChangeSpec := { name := "gateTurns", fn := fun _ => fun
  | [d1, d2] => { results := [.lit (.bool false)], args := [d1, d2] }
  | _ => none }
def GateTurnsWrongFalsely : Prop := gateTurnsRow.holds Try.pinned (OpenSpec.ofChange gateTurnsWrong)

/-- 'tapeworkskeep.GateShannon': WHATEVER THE INPUT: true; the input reads as it did. -/
def gateShannonSpec : ChangeSpec := { name := "gateShannon", fn := fun _ => fun
  | [d1, d2, d3] => { results := [.lit (.bool true)], args := [d1, d2, d3] }
  | _ => none }
def gateShannonRow : OpenClaim := { program := "ytelcipdpfoipiaa", sum := "61030ae0c8f3a05a131f536a42e16222b8b6f6a9af32fa59ef3fbdf2775ecd19", func := "tapeworks/tapeworkskeep.GateShannon", spec := "gateShannon", unfollowed := true, recurses := true, plainKeys := false, apart := false }
def GateShannonSaid : Prop := gateShannonRow.holds Try.pinned (OpenSpec.ofChange gateShannonSpec)

/-- ITS FALSE NEIGHBOUR: 'it returns false'. Refute it at one input. -/
def gateShannonWrong : ChangeSpec := { name := "gateShannon", fn := fun _ => fun
  | [d1, d2, d3] => { results := [.lit (.bool false)], args := [d1, d2, d3] }
  | _ => none }
def GateShannonWrongFalsely : Prop := gateShannonRow.holds Try.pinned (OpenSpec.ofChange gateShannonWrong)

/-- 'tapeworkskeep.GateTwice': WHATEVER THE INPUT: true; the input reads as it did. -/
def gateTwiceSpec : ChangeSpec := { name := "gateTwice", fn := fun _ => fun
  | [d1, d2, d3] => { results := [.lit (.bool true)], args := [d1, d2, d3] }
  | _ => none }
def gateTwiceRow : OpenClaim := { program := "ytelcipdpfoipiaa", sum := "61030ae0c8f3a05a131f536a42e16222b8b6f6a9af32fa59ef3fbdf2775ecd19", func := "tapeworks/tapeworkskeep.GateTwice", spec := "gateTwice", unfollowed := true, recurses := true, plainKeys := false, apart := false }
def GateTwiceSaid : Prop := gateTwiceRow.holds Try.pinned (OpenSpec.ofChange gateTwiceSpec)

/-- ITS FALSE NEIGHBOUR: 'it returns false'. Refute it at one input. -/
def gateTwiceWrong : ChangeSpec := { name := "gateTwice", fn := fun _ => fun
  | [d1, d2, d3] => { results := [.lit (.bool false)], args := [d1, d2, d3] }
  | _ => none }
def GateTwiceWrongFalsely : Prop := gateTwiceRow.holds Try.pinned (OpenSpec.ofChange gateTwiceWrong)

/-- 'tapeworkskeep.GateNot': WHATEVER THE INPUT: true; the input reads as it did. -/
def gateNotSpec : ChangeSpec := { name := "gateNot", fn := fun _ => fun
  | [d1, d2, d3] => { results := [.lit (.bool true)], args := [d1, d2, d3] }
  | _ => none }
def gateNotRow : OpenClaim := { program := "ytelcipdpfoipiaa", sum := "61030ae0c8f3a05a131f536a42e16222b8b6f6a9af32fa59ef3fbdf2775ecd19", func := "tapeworks/tapeworkskeep.GateNot", spec := "gateNot", unfollowed := true, recurses := true, plainKeys := false, apart := false }
def GateNotSaid : Prop := gateNotRow.holds Try.pinned (OpenSpec.ofChange gateNotSpec)

/-- ITS FALSE NEIGHBOUR: 'it returns false'. Refute it at one input. -/
def gateNotWrong : ChangeSpec := { name := "gateNot", fn := fun _ => fun
  | [d1, d2, d3] => { results := [.lit (.bool false)], args := [d1, d2, d3] }
  | _ => none }
def GateNotWrongFalsely : Prop := gateNotRow.holds Try.pinned (OpenSpec.ofChange gateNotWrong)

/- THE SECOND FORM. 'bulk': how many values and letters a reading holds, each counted each time it is reached (what is shared counts as often as it is met; a slice's spare places count too). A statement '..UptoSaid' is the law's where the arguments, and the package variables that the reading takes, are together of bulk at most 1048576: NARROWER than '..Said'. Prove '..Said' where nothing that the law and all that it calls make is longer than what came in: it says more and counts as full. Else prove '..UptoSaid'. A law counts once. -/
mutual
def uptoBulk {H : Type} : DataW H → Nat
  | .lit (.string bytes) => bytes.length + 1
  | .lit _ => 1
  | .nil => 1
  | .ptr d => uptoBulk d + 1
  | .slice elems spare => uptoBulkAll elems + uptoBulkAll spare + 1
  | .agg parts => uptoBulkAll parts + 1
  | .iface _ d => uptoBulk d + 1
  | .map entries => uptoBulkEntries entries + 1
  | .held _ => 1
def uptoBulkAll {H : Type} : List (DataW H) → Nat
  | [] => 0
  | d :: r => uptoBulk d + uptoBulkAll r
def uptoBulkEntries {H : Type} : List (Lit × DataW H) → Nat
  | [] => 0
  | x :: r => uptoBulkEntry x + uptoBulkEntries r
def uptoBulkEntry {H : Type} : Lit × DataW H → Nat
  | (.string bytes, d) => bytes.length + uptoBulk d + 1
  | (_, d) => uptoBulk d + 1
 end
def uptoSmall : (H : Type) → List (DataW H) → Bool := fun _ ds => decide (uptoBulkAll ds ≤ 1048576)
def OpenSpec.upto (s : _root_.Go.ChangeSpec) : _root_.Go.OpenSpec := { _root_.Go.OpenSpec.ofChange s with cond := some uptoSmall }

/-- 'tapeworkslaw.GateChecks', WHERE WHAT IT READS IS OF BULK AT MOST 1048576: true; the input reads as it did. -/
def gateChecksUptoRow : OpenClaim := { program := "ytelcipdpfoipiaa", sum := "61030ae0c8f3a05a131f536a42e16222b8b6f6a9af32fa59ef3fbdf2775ecd19", func := "tapeworks/tapeworkslaw.GateChecks", spec := "gateChecks", unfollowed := true, recurses := true, plainKeys := false, apart := false, narrowed := true }
def GateChecksUptoSaid : Prop := gateChecksUptoRow.holds Try.pinned (OpenSpec.upto gateChecksSpec)

/-- 'tapeworkslaw.GateValues', WHERE WHAT IT READS IS OF BULK AT MOST 1048576: true; the input reads as it did. -/
def gateValuesUptoRow : OpenClaim := { program := "ytelcipdpfoipiaa", sum := "61030ae0c8f3a05a131f536a42e16222b8b6f6a9af32fa59ef3fbdf2775ecd19", func := "tapeworks/tapeworkslaw.GateValues", spec := "gateValues", unfollowed := true, recurses := true, plainKeys := false, apart := false, narrowed := true }
def GateValuesUptoSaid : Prop := gateValuesUptoRow.holds Try.pinned (OpenSpec.upto gateValuesSpec)

/-- 'tapeworkslaw.GateDeeps', WHERE WHAT IT READS IS OF BULK AT MOST 1048576: true; the input reads as it did. -/
def gateDeepsUptoRow : OpenClaim := { program := "ytelcipdpfoipiaa", sum := "61030ae0c8f3a05a131f536a42e16222b8b6f6a9af32fa59ef3fbdf2775ecd19", func := "tapeworks/tapeworkslaw.GateDeeps", spec := "gateDeeps", unfollowed := true, recurses := true, plainKeys := false, apart := false, narrowed := true }
def GateDeepsUptoSaid : Prop := gateDeepsUptoRow.holds Try.pinned (OpenSpec.upto gateDeepsSpec)

/-- 'tapeworkslaw.GateBuilds', WHERE WHAT IT READS IS OF BULK AT MOST 1048576: true; the input reads as it did. -/
def gateBuildsUptoRow : OpenClaim := { program := "ytelcipdpfoipiaa", sum := "61030ae0c8f3a05a131f536a42e16222b8b6f6a9af32fa59ef3fbdf2775ecd19", func := "tapeworks/tapeworkslaw.GateBuilds", spec := "gateBuilds", unfollowed := true, recurses := true, plainKeys := false, apart := false, narrowed := true }
def GateBuildsUptoSaid : Prop := gateBuildsUptoRow.holds Try.pinned (OpenSpec.upto gateBuildsSpec)

/-- 'tapeworkslaw.GateTurns', WHERE WHAT IT READS IS OF BULK AT MOST 1048576: true; the input reads as it did. -/
def gateTurnsUptoRow : OpenClaim := { program := "ytelcipdpfoipiaa", sum := "61030ae0c8f3a05a131f536a42e16222b8b6f6a9af32fa59ef3fbdf2775ecd19", func := "tapeworks/tapeworkslaw.GateTurns", spec := "gateTurns", unfollowed := true, recurses := true, plainKeys := false, apart := false, narrowed := true }
def GateTurnsUptoSaid : Prop := gateTurnsUptoRow.holds Try.pinned (OpenSpec.upto gateTurnsSpec)

/-- 'tapeworkskeep.GateShannon', WHERE WHAT IT READS IS OF BULK AT MOST 1048576: true; the input reads as it did. -/
def gateShannonUptoRow : OpenClaim := { program := "ytelcipdpfoipiaa", sum := "61030ae0c8f3a05a131f536a42e16222b8b6f6a9af32fa59ef3fbdf2775ecd19", func := "tapeworks/tapeworkskeep.GateShannon", spec := "gateShannon", unfollowed := true, recurses := true, plainKeys := false, apart := false, narrowed := true }
def GateShannonUptoSaid : Prop := gateShannonUptoRow.holds Try.pinned (OpenSpec.upto gateShannonSpec)

/-- 'tapeworkskeep.GateTwice', WHERE WHAT IT READS IS OF BULK AT MOST 1048576: true; the input reads as it did. -/
def gateTwiceUptoRow : OpenClaim := { program := "ytelcipdpfoipiaa", sum := "61030ae0c8f3a05a131f536a42e16222b8b6f6a9af32fa59ef3fbdf2775ecd19", func := "tapeworks/tapeworkskeep.GateTwice", spec := "gateTwice", unfollowed := true, recurses := true, plainKeys := false, apart := false, narrowed := true }
def GateTwiceUptoSaid : Prop := gateTwiceUptoRow.holds Try.pinned (OpenSpec.upto gateTwiceSpec)

/-- 'tapeworkskeep.GateNot', WHERE WHAT IT READS IS OF BULK AT MOST 1048576: true; the input reads as it did. -/
def gateNotUptoRow : OpenClaim := { program := "ytelcipdpfoipiaa", sum := "61030ae0c8f3a05a131f536a42e16222b8b6f6a9af32fa59ef3fbdf2775ecd19", func := "tapeworks/tapeworkskeep.GateNot", spec := "gateNot", unfollowed := true, recurses := true, plainKeys := false, apart := false, narrowed := true }
def GateNotUptoSaid : Prop := gateNotUptoRow.holds Try.pinned (OpenSpec.upto gateNotSpec)

end Rows
end Go.Proofs.Ytelcipdpfoipiaa
