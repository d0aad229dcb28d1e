/-
  No cell of these rows narrows 'for every input' (looked for: loops, veiled, ifaces, maps, wideKeys, modest, calm, conditions, laid).
  DERIVED. THE GIVEN ROWS OF THIS SEAT. 5 by the template 'for every input the law returns true; each argument reads behind the call as it read before'; 0 by the template 'total and deterministic' (their statements: YtblakcgmngdhmaaTotals.lean).
  GIVEN WITH THE SEED: the statements are not yours to turn. If you find one false, say at which input.
  Laid BY PROGRAM, IN A SANDBOX (cutbox-rows.mjs): the forced cells as the released guide's own fill.sh prints them over the translation 301c77caed647360… (all of the seat's roots in one cut). By AI agents, Wed Nov 11 2026. No macro, syntax, notation, axiom, sorry.
-/
import Derived.Test.YtblakcgmngdhmaaChecked
import GoSem.Claim
import GoSem.ClaimJoined
import GoSem.ClaimMapViews
import Derived.JoinedTies
import Derived.KernelRfl
namespace Go.Proofs.Ytblakcgmngdhmaa
/- THE CELL 'sum', in the pinned program and in every row, IS THE sha256 OF THE DUMP (.gsa) THAT YtblakcgmngdhmaaProg.lean LOADS. Nothing in Lean hashes anything: it is a label: what it is worth is what the hold of that sum in a sandbox is worth. -/
noncomputable def Try.pinned : Pinned := { name := "ytblakcgmngdhmaa", sum := "301c77caed647360f4a78aeb49428c8a33339012c094ac4fe1fdb111a36b6092", checked := Try.checked }
namespace Rows
def none {H : Type} : Left H := { results := [], args := [] }

/-- 'tapeworkslaw.NameTrues': WHATEVER THE INPUT: true; the input reads as it did. -/
def nameTruesSpec : ChangeSpec := { name := "nameTrues", fn := fun _ => fun
  | [d1, d2, d3] => { results := [.lit (.bool true)], args := [d1, d2, d3] }
  | _ => none }
def nameTruesRow : OpenClaim := { program := "ytblakcgmngdhmaa", sum := "301c77caed647360f4a78aeb49428c8a33339012c094ac4fe1fdb111a36b6092", func := "tapeworks/tapeworkslaw.NameTrues", spec := "nameTrues", apart := false }
def NameTruesSaid : Prop := nameTruesRow.holds Try.pinned (OpenSpec.ofChange nameTruesSpec)

/-- ITS FALSE NEIGHBOUR: 'it returns false'. Refute it at one input. -/
def nameTruesWrong : ChangeSpec := { name := "nameTrues", fn := fun _ => fun
  | [d1, d2, d3] => { results := [.lit (.bool false)], args := [d1, d2, d3] }
  | _ => none }
def NameTruesWrongFalsely : Prop := nameTruesRow.holds Try.pinned (OpenSpec.ofChange nameTruesWrong)

/-- 'tapeworkslaw.NameManies': WHATEVER THE INPUT: true; the input reads as it did. -/
def nameManiesSpec : ChangeSpec := { name := "nameManies", fn := fun _ => fun
  | [d1, d2] => { results := [.lit (.bool true)], args := [d1, d2] }
  | _ => none }
def nameManiesRow : OpenClaim := { program := "ytblakcgmngdhmaa", sum := "301c77caed647360f4a78aeb49428c8a33339012c094ac4fe1fdb111a36b6092", func := "tapeworks/tapeworkslaw.NameManies", spec := "nameManies", apart := false }
def NameManiesSaid : Prop := nameManiesRow.holds Try.pinned (OpenSpec.ofChange nameManiesSpec)

/-- ITS FALSE NEIGHBOUR: 'it returns false'. Refute it at one input. -/
def nameManiesWrong : ChangeSpec := { name := "nameManies", fn := fun _ => fun
  | [d1, d2] => { results := [.lit (.bool false)], args := [d1, d2] }
  | _ => none }
def NameManiesWrongFalsely : Prop := nameManiesRow.holds Try.pinned (OpenSpec.ofChange nameManiesWrong)

/-- 'tapeworkslaw.NameBuilds': WHATEVER THE INPUT: true; the input reads as it did. -/
def nameBuildsSpec : ChangeSpec := { name := "nameBuilds", fn := fun _ => fun
  | [d1, d2] => { results := [.lit (.bool true)], args := [d1, d2] }
  | _ => none }
def nameBuildsRow : OpenClaim := { program := "ytblakcgmngdhmaa", sum := "301c77caed647360f4a78aeb49428c8a33339012c094ac4fe1fdb111a36b6092", func := "tapeworks/tapeworkslaw.NameBuilds", spec := "nameBuilds", unfollowed := true, recurses := true, apart := false }
def NameBuildsSaid : Prop := nameBuildsRow.holds Try.pinned (OpenSpec.ofChange nameBuildsSpec)

/-- ITS FALSE NEIGHBOUR: 'it returns false'. Refute it at one input. -/
def nameBuildsWrong : ChangeSpec := { name := "nameBuilds", fn := fun _ => fun
  | [d1, d2] => { results := [.lit (.bool false)], args := [d1, d2] }
  | _ => none }
def NameBuildsWrongFalsely : Prop := nameBuildsRow.holds Try.pinned (OpenSpec.ofChange nameBuildsWrong)

/-- 'tapeworkskeep.NameSame': WHATEVER THE INPUT: true; the input reads as it did. -/
def nameSameSpec : ChangeSpec := { name := "nameSame", fn := fun _ => fun
  | [d1, d2] => { results := [.lit (.bool true)], args := [d1, d2] }
  | _ => none }
def nameSameRow : OpenClaim := { program := "ytblakcgmngdhmaa", sum := "301c77caed647360f4a78aeb49428c8a33339012c094ac4fe1fdb111a36b6092", func := "tapeworks/tapeworkskeep.NameSame", spec := "nameSame", unfollowed := true, recurses := true, apart := false }
def NameSameSaid : Prop := nameSameRow.holds Try.pinned (OpenSpec.ofChange nameSameSpec)

/-- ITS FALSE NEIGHBOUR: 'it returns false'. Refute it at one input. -/
def nameSameWrong : ChangeSpec := { name := "nameSame", fn := fun _ => fun
  | [d1, d2] => { results := [.lit (.bool false)], args := [d1, d2] }
  | _ => none }
def NameSameWrongFalsely : Prop := nameSameRow.holds Try.pinned (OpenSpec.ofChange nameSameWrong)

/-- 'tapeworkskeep.NameMore': WHATEVER THE INPUT: true; the input reads as it did. -/
def nameMoreSpec : ChangeSpec := { name := "nameMore", fn := fun _ => fun
  | [d1, d2, d3] => { results := [.lit (.bool true)], args := [d1, d2, d3] }
  | _ => none }
def nameMoreRow : OpenClaim := { program := "ytblakcgmngdhmaa", sum := "301c77caed647360f4a78aeb49428c8a33339012c094ac4fe1fdb111a36b6092", func := "tapeworks/tapeworkskeep.NameMore", spec := "nameMore", apart := false }
def NameMoreSaid : Prop := nameMoreRow.holds Try.pinned (OpenSpec.ofChange nameMoreSpec)

/-- ITS FALSE NEIGHBOUR: 'it returns false'. Refute it at one input. -/
def nameMoreWrong : ChangeSpec := { name := "nameMore", fn := fun _ => fun
  | [d1, d2, d3] => { results := [.lit (.bool false)], args := [d1, d2, d3] }
  | _ => none }
def NameMoreWrongFalsely : Prop := nameMoreRow.holds Try.pinned (OpenSpec.ofChange nameMoreWrong)

/- THE SECOND FORM. 'bulk': how many values and letters a reading holds, each counted each time it is reached (what is shared counts as often as it is met; a slice's spare places count too). A statement '..UptoSaid' is the law's where the arguments, and the package variables that the reading takes, are together of bulk at most 1048576: NARROWER than '..Said'. Prove '..Said' where nothing that the law and all that it calls make is longer than what came in: it says more and counts as full. Else prove '..UptoSaid'. A law counts once. -/
mutual
def uptoBulk {H : Type} : DataW H → Nat
  | .lit (.string bytes) => bytes.length + 1
  | .lit _ => 1
  | .nil => 1
  | .ptr d => uptoBulk d + 1
  | .slice elems spare => uptoBulkAll elems + uptoBulkAll spare + 1
  | .agg parts => uptoBulkAll parts + 1
  | .iface _ d => uptoBulk d + 1
  | .map entries => uptoBulkEntries entries + 1
  | .held _ => 1
def uptoBulkAll {H : Type} : List (DataW H) → Nat
  | [] => 0
  | d :: r => uptoBulk d + uptoBulkAll r
def uptoBulkEntries {H : Type} : List (Lit × DataW H) → Nat
  | [] => 0
  | x :: r => uptoBulkEntry x + uptoBulkEntries r
def uptoBulkEntry {H : Type} : Lit × DataW H → Nat
  | (.string bytes, d) => bytes.length + uptoBulk d + 1
  | (_, d) => uptoBulk d + 1
 end
def uptoSmall : (H : Type) → List (DataW H) → Bool := fun _ ds => decide (uptoBulkAll ds ≤ 1048576)
def OpenSpec.upto (s : _root_.Go.ChangeSpec) : _root_.Go.OpenSpec := { _root_.Go.OpenSpec.ofChange s with cond := some uptoSmall }

/-- 'tapeworkslaw.NameTrues', WHERE WHAT IT READS IS OF BULK AT MOST 1048576: true; the input reads as it did. -/
def nameTruesUptoRow : OpenClaim := { program := "ytblakcgmngdhmaa", sum := "301c77caed647360f4a78aeb49428c8a33339012c094ac4fe1fdb111a36b6092", func := "tapeworks/tapeworkslaw.NameTrues", spec := "nameTrues", apart := false, narrowed := true }
def NameTruesUptoSaid : Prop := nameTruesUptoRow.holds Try.pinned (OpenSpec.upto nameTruesSpec)

/-- 'tapeworkslaw.NameManies', WHERE WHAT IT READS IS OF BULK AT MOST 1048576: true; the input reads as it did. -/
def nameManiesUptoRow : OpenClaim := { program := "ytblakcgmngdhmaa", sum := "301c77caed647360f4a78aeb49428c8a33339012c094ac4fe1fdb111a36b6092", func := "tapeworks/tapeworkslaw.NameManies", spec := "nameManies", apart := false, narrowed := true }
def NameManiesUptoSaid : Prop := nameManiesUptoRow.holds Try.pinned (OpenSpec.upto nameManiesSpec)

/-- 'tapeworkslaw.NameBuilds', WHERE WHAT IT READS IS OF BULK AT MOST 1048576: true; the input reads as it did. -/
def nameBuildsUptoRow : OpenClaim := { program := "ytblakcgmngdhmaa", sum := "301c77caed647360f4a78aeb49428c8a33339012c094ac4fe1fdb111a36b6092", func := "tapeworks/tapeworkslaw.NameBuilds", spec := "nameBuilds", unfollowed := true, recurses := true, apart := false, narrowed := true }
def NameBuildsUptoSaid : Prop := nameBuildsUptoRow.holds Try.pinned (OpenSpec.upto nameBuildsSpec)

/-- 'tapeworkskeep.NameSame', WHERE WHAT IT READS IS OF BULK AT MOST 1048576: true; the input reads as it did. -/
def nameSameUptoRow : OpenClaim := { program := "ytblakcgmngdhmaa", sum := "301c77caed647360f4a78aeb49428c8a33339012c094ac4fe1fdb111a36b6092", func := "tapeworks/tapeworkskeep.NameSame", spec := "nameSame", unfollowed := true, recurses := true, apart := false, narrowed := true }
def NameSameUptoSaid : Prop := nameSameUptoRow.holds Try.pinned (OpenSpec.upto nameSameSpec)

/-- 'tapeworkskeep.NameMore', WHERE WHAT IT READS IS OF BULK AT MOST 1048576: true; the input reads as it did. -/
def nameMoreUptoRow : OpenClaim := { program := "ytblakcgmngdhmaa", sum := "301c77caed647360f4a78aeb49428c8a33339012c094ac4fe1fdb111a36b6092", func := "tapeworks/tapeworkskeep.NameMore", spec := "nameMore", apart := false, narrowed := true }
def NameMoreUptoSaid : Prop := nameMoreUptoRow.holds Try.pinned (OpenSpec.upto nameMoreSpec)

end Rows
end Go.Proofs.Ytblakcgmngdhmaa
