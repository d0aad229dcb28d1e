/-
  No cell of these rows narrows 'for every input' (looked for: loops, veiled, ifaces, maps, wideKeys, modest, calm, conditions, laid).
  DERIVED. THE GIVEN ROWS OF THIS SEAT. 7 by the template 'for every input the law returns true; each argument reads behind the call as it read before'; 0 by the template 'total and deterministic' (their statements: YtpfeliiankfmbaaTotals.lean).
  GIVEN WITH THE SEED: the statements are not yours to turn. If you find one false, say at which input.
  Laid BY PROGRAM, IN A SANDBOX (cutbox-rows.mjs): the forced cells as the released guide's own fill.sh prints them over the translation 88f41bc0a54f2e01… (all of the seat's roots in one cut). By AI agents, Wed Nov 11 2026. No macro, syntax, notation, axiom, sorry.
-/
import Derived.Test.YtpfeliiankfmbaaChecked
import GoSem.Claim
import GoSem.ClaimJoined
import GoSem.ClaimMapViews
import Derived.JoinedTies
import Derived.KernelRfl
namespace Go.Proofs.Ytpfeliiankfmbaa
/- THE CELL 'sum', in the pinned program and in every row, IS THE sha256 OF THE DUMP (.gsa) THAT YtpfeliiankfmbaaProg.lean LOADS. Nothing in Lean hashes anything: it is a label: what it is worth is what the hold of that sum in a sandbox is worth. -/
noncomputable def Try.pinned : Pinned := { name := "ytpfeliiankfmbaa", sum := "88f41bc0a54f2e01ae8ec8020ba17dc3b3b778df93cdfa45016e9832ff34c511", checked := Try.checked }
namespace Rows
def none {H : Type} : Left H := { results := [], args := [] }

/-- 'tapeworkslaw.PairTells': WHATEVER THE INPUT: true; the input reads as it did. -/
def pairTellsSpec : ChangeSpec := { name := "pairTells", fn := fun _ => fun
  | [d1, d2] => { results := [.lit (.bool true)], args := [d1, d2] }
  | _ => none }
def pairTellsRow : OpenClaim := { program := "ytpfeliiankfmbaa", sum := "88f41bc0a54f2e01ae8ec8020ba17dc3b3b778df93cdfa45016e9832ff34c511", func := "tapeworks/tapeworkslaw.PairTells", spec := "pairTells", apart := false }
def PairTellsSaid : Prop := pairTellsRow.holds Try.pinned (OpenSpec.ofChange pairTellsSpec)

/-- ITS FALSE NEIGHBOUR: 'it returns false'. Refute it at one input. -/
def pairTellsWrong : ChangeSpec := { name := "pairTells", fn := fun _ => fun
  | [d1, d2] => { results := [.lit (.bool false)], args := [d1, d2] }
  | _ => none }
def PairTellsWrongFalsely : Prop := pairTellsRow.holds Try.pinned (OpenSpec.ofChange pairTellsWrong)

/-- 'tapeworkslaw.PairOpens': WHATEVER THE INPUT: true; the input reads as it did. -/
def pairOpensSpec : ChangeSpec := { name := "pairOpens", fn := fun _ => fun
  | [d] => { results := [.lit (.bool true)], args := [d] }
  | _ => none }
def pairOpensRow : OpenClaim := { program := "ytpfeliiankfmbaa", sum := "88f41bc0a54f2e01ae8ec8020ba17dc3b3b778df93cdfa45016e9832ff34c511", func := "tapeworks/tapeworkslaw.PairOpens", spec := "pairOpens", unfollowed := true, recurses := true, apart := false }
def PairOpensSaid : Prop := pairOpensRow.holds Try.pinned (OpenSpec.ofChange pairOpensSpec)

/-- ITS FALSE NEIGHBOUR: 'it returns false'. Refute it at one input. -/
def pairOpensWrong : ChangeSpec := { name := "pairOpens", fn := fun _ => fun
  | [d] => { results := [.lit (.bool false)], args := [d] }
  | _ => none }
def PairOpensWrongFalsely : Prop := pairOpensRow.holds Try.pinned (OpenSpec.ofChange pairOpensWrong)

/-- 'tapeworkslaw.PairBetas': WHATEVER THE INPUT: true; the input reads as it did. -/
def pairBetasSpec : ChangeSpec := { name := "pairBetas", fn := fun _ => fun
  | [d1, d2, d3] => { results := [.lit (.bool true)], args := [d1, d2, d3] }
  | _ => none }
def pairBetasRow : OpenClaim := { program := "ytpfeliiankfmbaa", sum := "88f41bc0a54f2e01ae8ec8020ba17dc3b3b778df93cdfa45016e9832ff34c511", func := "tapeworks/tapeworkslaw.PairBetas", spec := "pairBetas", apart := false }
def PairBetasSaid : Prop := pairBetasRow.holds Try.pinned (OpenSpec.ofChange pairBetasSpec)

/-- ITS FALSE NEIGHBOUR: 'it returns false'. Refute it at one input. -/
def pairBetasWrong : ChangeSpec := { name := "pairBetas", fn := fun _ => fun
  | [d1, d2, d3] => { results := [.lit (.bool false)], args := [d1, d2, d3] }
  | _ => none }
def PairBetasWrongFalsely : Prop := pairBetasRow.holds Try.pinned (OpenSpec.ofChange pairBetasWrong)

/-- 'tapeworkslaw.PairFinds': WHATEVER THE INPUT: true; the input reads as it did. -/
def pairFindsSpec : ChangeSpec := { name := "pairFinds", fn := fun _ => fun
  | [d] => { results := [.lit (.bool true)], args := [d] }
  | _ => none }
def pairFindsRow : OpenClaim := { program := "ytpfeliiankfmbaa", sum := "88f41bc0a54f2e01ae8ec8020ba17dc3b3b778df93cdfa45016e9832ff34c511", func := "tapeworks/tapeworkslaw.PairFinds", spec := "pairFinds", apart := false }
def PairFindsSaid : Prop := pairFindsRow.holds Try.pinned (OpenSpec.ofChange pairFindsSpec)

/-- ITS FALSE NEIGHBOUR: 'it returns false'. Refute it at one input. -/
def pairFindsWrong : ChangeSpec := { name := "pairFinds", fn := fun _ => fun
  | [d] => { results := [.lit (.bool false)], args := [d] }
  | _ => none }
def PairFindsWrongFalsely : Prop := pairFindsRow.holds Try.pinned (OpenSpec.ofChange pairFindsWrong)

/-- 'tapeworkskeep.PairBack': WHATEVER THE INPUT: true; the input reads as it did. -/
def pairBackSpec : ChangeSpec := { name := "pairBack", fn := fun _ => fun
  | [d1, d2, d3] => { results := [.lit (.bool true)], args := [d1, d2, d3] }
  | _ => none }
def pairBackRow : OpenClaim := { program := "ytpfeliiankfmbaa", sum := "88f41bc0a54f2e01ae8ec8020ba17dc3b3b778df93cdfa45016e9832ff34c511", func := "tapeworks/tapeworkskeep.PairBack", spec := "pairBack", unfollowed := true, recurses := true, apart := false }
def PairBackSaid : Prop := pairBackRow.holds Try.pinned (OpenSpec.ofChange pairBackSpec)

/-- ITS FALSE NEIGHBOUR: 'it returns false'. Refute it at one input. -/
def pairBackWrong : ChangeSpec := { name := "pairBack", fn := fun _ => fun
  | [d1, d2, d3] => { results := [.lit (.bool false)], args := [d1, d2, d3] }
  | _ => none }
def PairBackWrongFalsely : Prop := pairBackRow.holds Try.pinned (OpenSpec.ofChange pairBackWrong)

/-- 'tapeworkskeep.PairNext': WHATEVER THE INPUT: true; the input reads as it did. -/
def pairNextSpec : ChangeSpec := { name := "pairNext", fn := fun _ => fun
  | [d1, d2] => { results := [.lit (.bool true)], args := [d1, d2] }
  | _ => none }
def pairNextRow : OpenClaim := { program := "ytpfeliiankfmbaa", sum := "88f41bc0a54f2e01ae8ec8020ba17dc3b3b778df93cdfa45016e9832ff34c511", func := "tapeworks/tapeworkskeep.PairNext", spec := "pairNext", apart := false }
def PairNextSaid : Prop := pairNextRow.holds Try.pinned (OpenSpec.ofChange pairNextSpec)

/-- ITS FALSE NEIGHBOUR: 'it returns false'. Refute it at one input. -/
def pairNextWrong : ChangeSpec := { name := "pairNext", fn := fun _ => fun
  | [d1, d2] => { results := [.lit (.bool false)], args := [d1, d2] }
  | _ => none }
def PairNextWrongFalsely : Prop := pairNextRow.holds Try.pinned (OpenSpec.ofChange pairNextWrong)

/-- 'tapeworkskeep.PairList': WHATEVER THE INPUT: true; the input reads as it did. -/
def pairListSpec : ChangeSpec := { name := "pairList", fn := fun _ => fun
  | [d] => { results := [.lit (.bool true)], args := [d] }
  | _ => none }
def pairListRow : OpenClaim := { program := "ytpfeliiankfmbaa", sum := "88f41bc0a54f2e01ae8ec8020ba17dc3b3b778df93cdfa45016e9832ff34c511", func := "tapeworks/tapeworkskeep.PairList", spec := "pairList", apart := false }
def PairListSaid : Prop := pairListRow.holds Try.pinned (OpenSpec.ofChange pairListSpec)

/-- ITS FALSE NEIGHBOUR: 'it returns false'. Refute it at one input. -/
def pairListWrong : ChangeSpec := { name := "pairList", fn := fun _ => fun
  | [d] => { results := [.lit (.bool false)], args := [d] }
  | _ => none }
def PairListWrongFalsely : Prop := pairListRow.holds Try.pinned (OpenSpec.ofChange pairListWrong)

/- THE SECOND FORM. 'bulk': how many values and letters a reading holds, each counted each time it is reached (what is shared counts as often as it is met; a slice's spare places count too). A statement '..UptoSaid' is the law's where the arguments, and the package variables that the reading takes, are together of bulk at most 1048576: NARROWER than '..Said'. Prove '..Said' where nothing that the law and all that it calls make is longer than what came in: it says more and counts as full. Else prove '..UptoSaid'. A law counts once. -/
mutual
def uptoBulk {H : Type} : DataW H → Nat
  | .lit (.string bytes) => bytes.length + 1
  | .lit _ => 1
  | .nil => 1
  | .ptr d => uptoBulk d + 1
  | .slice elems spare => uptoBulkAll elems + uptoBulkAll spare + 1
  | .agg parts => uptoBulkAll parts + 1
  | .iface _ d => uptoBulk d + 1
  | .map entries => uptoBulkEntries entries + 1
  | .held _ => 1
def uptoBulkAll {H : Type} : List (DataW H) → Nat
  | [] => 0
  | d :: r => uptoBulk d + uptoBulkAll r
def uptoBulkEntries {H : Type} : List (Lit × DataW H) → Nat
  | [] => 0
  | x :: r => uptoBulkEntry x + uptoBulkEntries r
def uptoBulkEntry {H : Type} : Lit × DataW H → Nat
  | (.string bytes, d) => bytes.length + uptoBulk d + 1
  | (_, d) => uptoBulk d + 1
 end
def uptoSmall : (H : Type) → List (DataW H) → Bool := fun _ ds => decide (uptoBulkAll ds ≤ 1048576)
def OpenSpec.upto (s : _root_.Go.ChangeSpec) : _root_.Go.OpenSpec := { _root_.Go.OpenSpec.ofChange s with cond := some uptoSmall }

/-- 'tapeworkslaw.PairTells', WHERE WHAT IT READS IS OF BULK AT MOST 1048576: true; the input reads as it did. -/
def pairTellsUptoRow : OpenClaim := { program := "ytpfeliiankfmbaa", sum := "88f41bc0a54f2e01ae8ec8020ba17dc3b3b778df93cdfa45016e9832ff34c511", func := "tapeworks/tapeworkslaw.PairTells", spec := "pairTells", apart := false, narrowed := true }
def PairTellsUptoSaid : Prop := pairTellsUptoRow.holds Try.pinned (OpenSpec.upto pairTellsSpec)

/-- 'tapeworkslaw.PairOpens', WHERE WHAT IT READS IS OF BULK AT MOST 1048576: true; the input reads as it did. -/
def pairOpensUptoRow : OpenClaim := { program := "ytpfeliiankfmbaa", sum := "88f41bc0a54f2e01ae8ec8020ba17dc3b3b778df93cdfa45016e9832ff34c511", func := "tapeworks/tapeworkslaw.PairOpens", spec := "pairOpens", unfollowed := true, recurses := true, apart := false, narrowed := true }
def PairOpensUptoSaid : Prop := pairOpensUptoRow.holds Try.pinned (OpenSpec.upto pairOpensSpec)

/-- 'tapeworkslaw.PairBetas', WHERE WHAT IT READS IS OF BULK AT MOST 1048576: true; the input reads as it did. -/
def pairBetasUptoRow : OpenClaim := { program := "ytpfeliiankfmbaa", sum := "88f41bc0a54f2e01ae8ec8020ba17dc3b3b778df93cdfa45016e9832ff34c511", func := "tapeworks/tapeworkslaw.PairBetas", spec := "pairBetas", apart := false, narrowed := true }
def PairBetasUptoSaid : Prop := pairBetasUptoRow.holds Try.pinned (OpenSpec.upto pairBetasSpec)

/-- 'tapeworkslaw.PairFinds', WHERE WHAT IT READS IS OF BULK AT MOST 1048576: true; the input reads as it did. -/
def pairFindsUptoRow : OpenClaim := { program := "ytpfeliiankfmbaa", sum := "88f41bc0a54f2e01ae8ec8020ba17dc3b3b778df93cdfa45016e9832ff34c511", func := "tapeworks/tapeworkslaw.PairFinds", spec := "pairFinds", apart := false, narrowed := true }
def PairFindsUptoSaid : Prop := pairFindsUptoRow.holds Try.pinned (OpenSpec.upto pairFindsSpec)

/-- 'tapeworkskeep.PairBack', WHERE WHAT IT READS IS OF BULK AT MOST 1048576: true; the input reads as it did. -/
def pairBackUptoRow : OpenClaim := { program := "ytpfeliiankfmbaa", sum := "88f41bc0a54f2e01ae8ec8020ba17dc3b3b778df93cdfa45016e9832ff34c511", func := "tapeworks/tapeworkskeep.PairBack", spec := "pairBack", unfollowed := true, recurses := true, apart := false, narrowed := true }
def PairBackUptoSaid : Prop := pairBackUptoRow.holds Try.pinned (OpenSpec.upto pairBackSpec)

/-- 'tapeworkskeep.PairNext', WHERE WHAT IT READS IS OF BULK AT MOST 1048576: true; the input reads as it did. -/
def pairNextUptoRow : OpenClaim := { program := "ytpfeliiankfmbaa", sum := "88f41bc0a54f2e01ae8ec8020ba17dc3b3b778df93cdfa45016e9832ff34c511", func := "tapeworks/tapeworkskeep.PairNext", spec := "pairNext", apart := false, narrowed := true }
def PairNextUptoSaid : Prop := pairNextUptoRow.holds Try.pinned (OpenSpec.upto pairNextSpec)

/-- 'tapeworkskeep.PairList', WHERE WHAT IT READS IS OF BULK AT MOST 1048576: true; the input reads as it did. -/
def pairListUptoRow : OpenClaim := { program := "ytpfeliiankfmbaa", sum := "88f41bc0a54f2e01ae8ec8020ba17dc3b3b778df93cdfa45016e9832ff34c511", func := "tapeworks/tapeworkskeep.PairList", spec := "pairList", apart := false, narrowed := true }
def PairListUptoSaid : Prop := pairListUptoRow.holds Try.pinned (OpenSpec.upto pairListSpec)

end Rows
end Go.Proofs.Ytpfeliiankfmbaa
