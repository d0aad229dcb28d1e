/-
  No cell of these rows narrows 'for every input' (looked for: loops, veiled, ifaces, maps, wideKeys, modest, calm, conditions, laid).
  DERIVED. THE GIVEN ROWS OF THIS SEAT. 8 by the template 'for every input the law returns true; each argument reads behind the call as it read before'; 0 by the template 'total and deterministic' (their statements: YtoffjeeajdmgfaaTotals.lean).
  GIVEN WITH THE SEED: the statements are not yours to turn. If you find one false, say at which input.
  Laid BY PROGRAM, IN A SANDBOX (cutbox-rows.mjs): the forced cells as the released guide's own fill.sh prints them over the translation 4b68beab495c2beb… (all of the seat's roots in one cut). By AI agents, Wed Nov 11 2026. No macro, syntax, notation, axiom, sorry.
-/
import Derived.Test.YtoffjeeajdmgfaaChecked
import GoSem.Claim
import GoSem.ClaimJoined
import GoSem.ClaimMapViews
import Derived.JoinedTies
import Derived.KernelRfl
namespace Go.Proofs.Ytoffjeeajdmgfaa
/- THE CELL 'sum', in the pinned program and in every row, IS THE sha256 OF THE DUMP (.gsa) THAT YtoffjeeajdmgfaaProg.lean LOADS. Nothing in Lean hashes anything: it is a label: what it is worth is what the hold of that sum in a sandbox is worth. -/
noncomputable def Try.pinned : Pinned := { name := "ytoffjeeajdmgfaa", sum := "4b68beab495c2beb998f765d12a80c63a67937f24a2d2699fa6dd166509b679e", checked := Try.checked }
namespace Rows
def none {H : Type} : Left H := { results := [], args := [] }

/-- 'tapeworkslaw.GateBuilds': WHATEVER THE INPUT: true; the input reads as it did. -/
def gateBuildsSpec : ChangeSpec := { name := "gateBuilds", fn := fun _ => fun
  | [d1, d2] => { results := [.lit (.bool true)], args := [d1, d2] }
  | _ => none }
def gateBuildsRow : OpenClaim := { program := "ytoffjeeajdmgfaa", sum := "4b68beab495c2beb998f765d12a80c63a67937f24a2d2699fa6dd166509b679e", func := "tapeworks/tapeworkslaw.GateBuilds", spec := "gateBuilds", plainKeys := false, apart := false }
def GateBuildsSaid : Prop := gateBuildsRow.holds Try.pinned (OpenSpec.ofChange gateBuildsSpec)

/-- ITS FALSE NEIGHBOUR: 'it returns false'. Refute it at one input. -/
def gateBuildsWrong : ChangeSpec := { name := "gateBuilds", fn := fun _ => fun
  | [d1, d2] => { results := [.lit (.bool false)], args := [d1, d2] }
  | _ => none }
def GateBuildsWrongFalsely : Prop := gateBuildsRow.holds Try.pinned (OpenSpec.ofChange gateBuildsWrong)

/-- 'tapeworkslaw.GateTurns': WHATEVER THE INPUT: true; the input reads as it did. -/
def gateTurnsSpec : ChangeSpec := { name := "gateTurns", fn := fun _ => fun
  | [d1, d2] => { results := [.lit (.bool true)], args := [d1, d2] }
  | _ => none }
def gateTurnsRow : OpenClaim := { program := "ytoffjeeajdmgfaa", sum := "4b68beab495c2beb998f765d12a80c63a67937f24a2d2699fa6dd166509b679e", func := "tapeworks/tapeworkslaw.GateTurns", spec := "gateTurns", unfollowed := true, recurses := true, plainKeys := false, apart := false }
def GateTurnsSaid : Prop := gateTurnsRow.holds Try.pinned (OpenSpec.ofChange gateTurnsSpec)

/-- ITS FALSE NEIGHBOUR: 'it returns false'. Refute it at one input. -/
def gateTurnsWrong : ChangeSpec := { name := "gateTurns", fn := fun _ => fun
  | [d1, d2] => { results := [.lit (.bool false)], args := [d1, d2] }
  | _ => none }
def GateTurnsWrongFalsely : Prop := gateTurnsRow.holds Try.pinned (OpenSpec.ofChange gateTurnsWrong)

/-- 'tapeworkskeep.GateShannon': WHATEVER THE INPUT: true; the input reads as it did. -/
def gateShannonSpec : ChangeSpec := { name := "gateShannon", fn := fun _ => fun
  | [d1, d2, d3] => { results := [.lit (.bool true)], args := [d1, d2, d3] }
  | _ => none }
def gateShannonRow : OpenClaim := { program := "ytoffjeeajdmgfaa", sum := "4b68beab495c2beb998f765d12a80c63a67937f24a2d2699fa6dd166509b679e", func := "tapeworks/tapeworkskeep.GateShannon", spec := "gateShannon", unfollowed := true, recurses := true, plainKeys := false, apart := false }
def GateShannonSaid : Prop := gateShannonRow.holds Try.pinned (OpenSpec.ofChange gateShannonSpec)

/-- ITS FALSE NEIGHBOUR: 'it returns false'. Refute it at one input. -/
def gateShannonWrong : ChangeSpec := { name := "gateShannon", fn := fun _ => fun
  | [d1, d2, d3] => { results := [.lit (.bool false)], args := [d1, d2, d3] }
  | _ => none }
def GateShannonWrongFalsely : Prop := gateShannonRow.holds Try.pinned (OpenSpec.ofChange gateShannonWrong)

/-- 'tapeworkskeep.GateTwice': WHATEVER THE INPUT: true; the input reads as it did. -/
def gateTwiceSpec : ChangeSpec := { name := "gateTwice", fn := fun _ => fun
  | [d1, d2, d3] => { results := [.lit (.bool true)], args := [d1, d2, d3] }
  | _ => none }
def gateTwiceRow : OpenClaim := { program := "ytoffjeeajdmgfaa", sum := "4b68beab495c2beb998f765d12a80c63a67937f24a2d2699fa6dd166509b679e", func := "tapeworks/tapeworkskeep.GateTwice", spec := "gateTwice", unfollowed := true, recurses := true, plainKeys := false, apart := false }
def GateTwiceSaid : Prop := gateTwiceRow.holds Try.pinned (OpenSpec.ofChange gateTwiceSpec)

/-- ITS FALSE NEIGHBOUR: 'it returns false'. Refute it at one input. -/
def gateTwiceWrong : ChangeSpec := { name := "gateTwice", fn := fun _ => fun
  | [d1, d2, d3] => { results := [.lit (.bool false)], args := [d1, d2, d3] }
  | _ => none }
def GateTwiceWrongFalsely : Prop := gateTwiceRow.holds Try.pinned (OpenSpec.ofChange gateTwiceWrong)

/-- 'tapeworkslaw.UnrollAsks': WHATEVER THE INPUT: true; the input reads as it did. -/
def unrollAsksSpec : ChangeSpec := { name := "unrollAsks", fn := fun _ => fun
  | [d1, d2, d3, d4] => { results := [.lit (.bool true)], args := [d1, d2, d3, d4] }
  | _ => none }
def unrollAsksRow : OpenClaim := { program := "ytoffjeeajdmgfaa", sum := "4b68beab495c2beb998f765d12a80c63a67937f24a2d2699fa6dd166509b679e", func := "tapeworks/tapeworkslaw.UnrollAsks", spec := "unrollAsks", unfollowed := true, recurses := true, plainKeys := false, apart := false }
def UnrollAsksSaid : Prop := unrollAsksRow.holds Try.pinned (OpenSpec.ofChange unrollAsksSpec)

/-- ITS FALSE NEIGHBOUR: 'it returns false'. Refute it at one input. -/
def unrollAsksWrong : ChangeSpec := { name := "unrollAsks", fn := fun _ => fun
  | [d1, d2, d3, d4] => { results := [.lit (.bool false)], args := [d1, d2, d3, d4] }
  | _ => none }
def UnrollAsksWrongFalsely : Prop := unrollAsksRow.holds Try.pinned (OpenSpec.ofChange unrollAsksWrong)

/-- 'tapeworkslaw.UnrollBuilds': WHATEVER THE INPUT: true; the input reads as it did. -/
def unrollBuildsSpec : ChangeSpec := { name := "unrollBuilds", fn := fun _ => fun
  | [d1, d2, d3] => { results := [.lit (.bool true)], args := [d1, d2, d3] }
  | _ => none }
def unrollBuildsRow : OpenClaim := { program := "ytoffjeeajdmgfaa", sum := "4b68beab495c2beb998f765d12a80c63a67937f24a2d2699fa6dd166509b679e", func := "tapeworks/tapeworkslaw.UnrollBuilds", spec := "unrollBuilds", unfollowed := true, recurses := true, plainKeys := false, apart := false }
def UnrollBuildsSaid : Prop := unrollBuildsRow.holds Try.pinned (OpenSpec.ofChange unrollBuildsSpec)

/-- ITS FALSE NEIGHBOUR: 'it returns false'. Refute it at one input. -/
def unrollBuildsWrong : ChangeSpec := { name := "unrollBuilds", fn := fun _ => fun
  | [d1, d2, d3] => { results := [.lit (.bool false)], args := [d1, d2, d3] }
  | _ => none }
def UnrollBuildsWrongFalsely : Prop := unrollBuildsRow.holds Try.pinned (OpenSpec.ofChange unrollBuildsWrong)

/-- 'tapeworkskeep.UnrollMore': WHATEVER THE INPUT: true; the input reads as it did. -/
def unrollMoreSpec : ChangeSpec := { name := "unrollMore", fn := fun _ => fun
  | [d1, d2, d3, d4] => { results := [.lit (.bool true)], args := [d1, d2, d3, d4] }
  | _ => none }
def unrollMoreRow : OpenClaim := { program := "ytoffjeeajdmgfaa", sum := "4b68beab495c2beb998f765d12a80c63a67937f24a2d2699fa6dd166509b679e", func := "tapeworks/tapeworkskeep.UnrollMore", spec := "unrollMore", unfollowed := true, recurses := true, plainKeys := false, apart := false }
def UnrollMoreSaid : Prop := unrollMoreRow.holds Try.pinned (OpenSpec.ofChange unrollMoreSpec)

/-- ITS FALSE NEIGHBOUR: 'it returns false'. Refute it at one input. -/
def unrollMoreWrong : ChangeSpec := { name := "unrollMore", fn := fun _ => fun
  | [d1, d2, d3, d4] => { results := [.lit (.bool false)], args := [d1, d2, d3, d4] }
  | _ => none }
def UnrollMoreWrongFalsely : Prop := unrollMoreRow.holds Try.pinned (OpenSpec.ofChange unrollMoreWrong)

/-- 'tapeworkskeep.UnrollSame': WHATEVER THE INPUT: true; the input reads as it did. -/
def unrollSameSpec : ChangeSpec := { name := "unrollSame", fn := fun _ => fun
  | [d1, d2, d3, d4] => { results := [.lit (.bool true)], args := [d1, d2, d3, d4] }
  | _ => none }
def unrollSameRow : OpenClaim := { program := "ytoffjeeajdmgfaa", sum := "4b68beab495c2beb998f765d12a80c63a67937f24a2d2699fa6dd166509b679e", func := "tapeworks/tapeworkskeep.UnrollSame", spec := "unrollSame", unfollowed := true, recurses := true, plainKeys := false, apart := false }
def UnrollSameSaid : Prop := unrollSameRow.holds Try.pinned (OpenSpec.ofChange unrollSameSpec)

/-- ITS FALSE NEIGHBOUR: 'it returns false'. Refute it at one input. -/
def unrollSameWrong : ChangeSpec := { name := "unrollSame", fn := fun _ => fun
  | [d1, d2, d3, d4] => { results := [.lit (.bool false)], args := [d1, d2, d3, d4] }
  | _ => none }
def UnrollSameWrongFalsely : Prop := unrollSameRow.holds Try.pinned (OpenSpec.ofChange unrollSameWrong)

/- THE SECOND FORM. 'bulk': how many values and letters a reading holds, each counted each time it is reached (what is shared counts as often as it is met; a slice's spare places count too). A statement '..UptoSaid' is the law's where the arguments, and the package variables that the reading takes, are together of bulk at most 1048576: NARROWER than '..Said'. Prove '..Said' where nothing that the law and all that it calls make is longer than what came in: it says more and counts as full. Else prove '..UptoSaid'. A law counts once. -/
mutual
def uptoBulk {H : Type} : DataW H → Nat
  | .lit (.string bytes) => bytes.length + 1
  | .lit _ => 1
  | .nil => 1
  | .ptr d => uptoBulk d + 1
  | .slice elems spare => uptoBulkAll elems + uptoBulkAll spare + 1
  | .agg parts => uptoBulkAll parts + 1
  | .iface _ d => uptoBulk d + 1
  | .map entries => uptoBulkEntries entries + 1
  | .held _ => 1
def uptoBulkAll {H : Type} : List (DataW H) → Nat
  | [] => 0
  | d :: r => uptoBulk d + uptoBulkAll r
def uptoBulkEntries {H : Type} : List (Lit × DataW H) → Nat
  | [] => 0
  | x :: r => uptoBulkEntry x + uptoBulkEntries r
def uptoBulkEntry {H : Type} : Lit × DataW H → Nat
  | (.string bytes, d) => bytes.length + uptoBulk d + 1
  | (_, d) => uptoBulk d + 1
 end
def uptoSmall : (H : Type) → List (DataW H) → Bool := fun _ ds => decide (uptoBulkAll ds ≤ 1048576)
def OpenSpec.upto (s : _root_.Go.ChangeSpec) : _root_.Go.OpenSpec := { _root_.Go.OpenSpec.ofChange s with cond := some uptoSmall }

/-- 'tapeworkslaw.GateBuilds', WHERE WHAT IT READS IS OF BULK AT MOST 1048576: true; the input reads as it did. -/
def gateBuildsUptoRow : OpenClaim := { program := "ytoffjeeajdmgfaa", sum := "4b68beab495c2beb998f765d12a80c63a67937f24a2d2699fa6dd166509b679e", func := "tapeworks/tapeworkslaw.GateBuilds", spec := "gateBuilds", plainKeys := false, apart := false, narrowed := true }
def GateBuildsUptoSaid : Prop := gateBuildsUptoRow.holds Try.pinned (OpenSpec.upto gateBuildsSpec)

/-- 'tapeworkslaw.GateTurns', WHERE WHAT IT READS IS OF BULK AT MOST 1048576: true; the input reads as it did. -/
def gateTurnsUptoRow : OpenClaim := { program := "ytoffjeeajdmgfaa", sum := "4b68beab495c2beb998f765d12a80c63a67937f24a2d2699fa6dd166509b679e", func := "tapeworks/tapeworkslaw.GateTurns", spec := "gateTurns", unfollowed := true, recurses := true, plainKeys := false, apart := false, narrowed := true }
def GateTurnsUptoSaid : Prop := gateTurnsUptoRow.holds Try.pinned (OpenSpec.upto gateTurnsSpec)

/-- 'tapeworkskeep.GateShannon', WHERE WHAT IT READS IS OF BULK AT MOST 1048576: true; the input reads as it did. -/
def gateShannonUptoRow : OpenClaim := { program := "ytoffjeeajdmgfaa", sum := "4b68beab495c2beb998f765d12a80c63a67937f24a2d2699fa6dd166509b679e", func := "tapeworks/tapeworkskeep.GateShannon", spec := "gateShannon", unfollowed := true, recurses := true, plainKeys := false, apart := false, narrowed := true }
def GateShannonUptoSaid : Prop := gateShannonUptoRow.holds Try.pinned (OpenSpec.upto gateShannonSpec)

/-- 'tapeworkskeep.GateTwice', WHERE WHAT IT READS IS OF BULK AT MOST 1048576: true; the input reads as it did. -/
def gateTwiceUptoRow : OpenClaim := { program := "ytoffjeeajdmgfaa", sum := "4b68beab495c2beb998f765d12a80c63a67937f24a2d2699fa6dd166509b679e", func := "tapeworks/tapeworkskeep.GateTwice", spec := "gateTwice", unfollowed := true, recurses := true, plainKeys := false, apart := false, narrowed := true }
def GateTwiceUptoSaid : Prop := gateTwiceUptoRow.holds Try.pinned (OpenSpec.upto gateTwiceSpec)

/-- 'tapeworkslaw.UnrollAsks', WHERE WHAT IT READS IS OF BULK AT MOST 1048576: true; the input reads as it did. -/
def unrollAsksUptoRow : OpenClaim := { program := "ytoffjeeajdmgfaa", sum := "4b68beab495c2beb998f765d12a80c63a67937f24a2d2699fa6dd166509b679e", func := "tapeworks/tapeworkslaw.UnrollAsks", spec := "unrollAsks", unfollowed := true, recurses := true, plainKeys := false, apart := false, narrowed := true }
def UnrollAsksUptoSaid : Prop := unrollAsksUptoRow.holds Try.pinned (OpenSpec.upto unrollAsksSpec)

/-- 'tapeworkslaw.UnrollBuilds', WHERE WHAT IT READS IS OF BULK AT MOST 1048576: true; the input reads as it did. -/
def unrollBuildsUptoRow : OpenClaim := { program := "ytoffjeeajdmgfaa", sum := "4b68beab495c2beb998f765d12a80c63a67937f24a2d2699fa6dd166509b679e", func := "tapeworks/tapeworkslaw.UnrollBuilds", spec := "unrollBuilds", unfollowed := true, recurses := true, plainKeys := false, apart := false, narrowed := true }
def UnrollBuildsUptoSaid : Prop := unrollBuildsUptoRow.holds Try.pinned (OpenSpec.upto unrollBuildsSpec)

/-- 'tapeworkskeep.UnrollMore', WHERE WHAT IT READS IS OF BULK AT MOST 1048576: true; the input reads as it did. -/
def unrollMoreUptoRow : OpenClaim := { program := "ytoffjeeajdmgfaa", sum := "4b68beab495c2beb998f765d12a80c63a67937f24a2d2699fa6dd166509b679e", func := "tapeworks/tapeworkskeep.UnrollMore", spec := "unrollMore", unfollowed := true, recurses := true, plainKeys := false, apart := false, narrowed := true }
def UnrollMoreUptoSaid : Prop := unrollMoreUptoRow.holds Try.pinned (OpenSpec.upto unrollMoreSpec)

/-- 'tapeworkskeep.UnrollSame', WHERE WHAT IT READS IS OF BULK AT MOST 1048576: true; the input reads as it did. -/
def unrollSameUptoRow : OpenClaim := { program := "ytoffjeeajdmgfaa", sum := "4b68beab495c2beb998f765d12a80c63a67937f24a2d2699fa6dd166509b679e", func := "tapeworks/tapeworkskeep.UnrollSame", spec := "unrollSame", unfollowed := true, recurses := true, plainKeys := false, apart := false, narrowed := true }
def UnrollSameUptoSaid : Prop := unrollSameUptoRow.holds Try.pinned (OpenSpec.upto unrollSameSpec)

end Rows
end Go.Proofs.Ytoffjeeajdmgfaa
