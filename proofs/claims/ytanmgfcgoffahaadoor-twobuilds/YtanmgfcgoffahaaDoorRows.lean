/-
  NARROWER THAN 'FOR EVERY INPUT', by the rows' own cells (each row's printed sentence says how): TwoPacks: laid · TwoOpens: laid · TwoBuilds: laid · TwoBack: laid · TwoTimes: laid.
  DERIVED. THE GIVEN ROWS OF THIS SEAT. 5 by the template 'for every input the law returns true; each argument reads behind the call as it read before'; 0 by the template 'total and deterministic' (their statements: YtanmgfcgoffahaaDoorTotals.lean).
  GIVEN WITH THE SEED: the statements are not yours to turn. If you find one false, say at which input.
  Laid BY PROGRAM, IN A SANDBOX (cutbox-rows.mjs): the forced cells as the released guide's own fill.sh prints them over the translation dc197177a5168691… (all of the seat's roots in one cut). By AI agents, Wed Nov 11 2026. No macro, syntax, notation, axiom, sorry.
-/
import Derived.Test.YtanmgfcgoffahaaDoorChecked
import GoSem.Claim
import GoSem.ClaimJoined
import GoSem.ClaimMapViews
import Derived.JoinedTies
import Derived.KernelRfl
namespace Go.Proofs.YtanmgfcgoffahaaDoor
/- THE CELL 'sum', in the pinned program and in every row, IS THE sha256 OF THE DUMP (.gsa) THAT YtanmgfcgoffahaaDoorProg.lean LOADS. Nothing in Lean hashes anything: it is a label: what it is worth is what the hold of that sum in a sandbox is worth. -/
noncomputable def Tryd.pinned : Pinned := { name := "ytanmgfcgoffahaadoor", sum := "dc197177a5168691e189d3597b594ec6dc24392065ffcb79cb4a9876aaabb199", checked := Tryd.checked }
namespace Rows
def none {H : Type} : Left H := { results := [], args := [] }

/- WHAT THE LISTED PACKAGE-LEVEL VARIABLES READ AS WHEN THE CALL BEGINS. Each datum BY PROGRAM (the guide's laid-datum.mjs) off the statement by which the dump's own 'gosem.cut.vars' lays the variable. In a bare row this is a premise. The card (YtanmgfcgoffahaaDoorCards.lean) ties it to the program's text. -/
def laid_tapeworks_two_primes {H : Type} : DataW H := .agg [.lit (.int .i64 2), .lit (.int .i64 3), .lit (.int .i64 5), .lit (.int .i64 7)]

/-- 'tapeworkslaw.TwoPacks': WHATEVER THE INPUT: true; the input reads as it did. -/
def twoPacksSpec : ChangeSpec := { name := "twoPacks", fn := fun _ => fun
  | [d] => { results := [.lit (.bool true)], args := [d] }
  | _ => none }
def twoPacksRow : OpenClaim := { program := "ytanmgfcgoffahaadoor", sum := "dc197177a5168691e189d3597b594ec6dc24392065ffcb79cb4a9876aaabb199", func := "tapeworks/tapeworkslaw.TwoPacks", spec := "twoPacks", named := ["tapeworks/two.primes"], apart := false, laid := [("tapeworks/two.primes", laid_tapeworks_two_primes)] }
def TwoPacksSaid : Prop := twoPacksRow.holds Tryd.pinned (OpenSpec.ofChange twoPacksSpec)

/-- ITS FALSE NEIGHBOUR: 'it returns false'. Refute it at one input. -/
def twoPacksWrong : ChangeSpec := { name := "twoPacks", fn := fun _ => fun
  | [d] => { results := [.lit (.bool false)], args := [d] }
  | _ => none }
def TwoPacksWrongFalsely : Prop := twoPacksRow.holds Tryd.pinned (OpenSpec.ofChange twoPacksWrong)

/-- 'tapeworkslaw.TwoOpens': WHATEVER THE INPUT: true; the input reads as it did. -/
def twoOpensSpec : ChangeSpec := { name := "twoOpens", fn := fun _ => fun
  | [d1, d2] => { results := [.lit (.bool true)], args := [d1, d2] }
  | _ => none }
def twoOpensRow : OpenClaim := { program := "ytanmgfcgoffahaadoor", sum := "dc197177a5168691e189d3597b594ec6dc24392065ffcb79cb4a9876aaabb199", func := "tapeworks/tapeworkslaw.TwoOpens", spec := "twoOpens", named := ["tapeworks/two.primes"], apart := false, laid := [("tapeworks/two.primes", laid_tapeworks_two_primes)] }
def TwoOpensSaid : Prop := twoOpensRow.holds Tryd.pinned (OpenSpec.ofChange twoOpensSpec)

/-- ITS FALSE NEIGHBOUR: 'it returns false'. Refute it at one input. -/
def twoOpensWrong : ChangeSpec := { name := "twoOpens", fn := fun _ => fun
  | [d1, d2] => { results := [.lit (.bool false)], args := [d1, d2] }
  | _ => none }
def TwoOpensWrongFalsely : Prop := twoOpensRow.holds Tryd.pinned (OpenSpec.ofChange twoOpensWrong)

/-- 'tapeworkslaw.TwoBuilds': WHATEVER THE INPUT: true; the input reads as it did. -/
def twoBuildsSpec : ChangeSpec := { name := "twoBuilds", fn := fun _ => fun
  | [d1, d2, d3, d4] => { results := [.lit (.bool true)], args := [d1, d2, d3, d4] }
  | _ => none }
def twoBuildsRow : OpenClaim := { program := "ytanmgfcgoffahaadoor", sum := "dc197177a5168691e189d3597b594ec6dc24392065ffcb79cb4a9876aaabb199", func := "tapeworks/tapeworkslaw.TwoBuilds", spec := "twoBuilds", unfollowed := true, recurses := true, named := ["tapeworks/two.primes"], apart := false, laid := [("tapeworks/two.primes", laid_tapeworks_two_primes)] }
def TwoBuildsSaid : Prop := twoBuildsRow.holds Tryd.pinned (OpenSpec.ofChange twoBuildsSpec)

/-- ITS FALSE NEIGHBOUR: 'it returns false'. Refute it at one input. -/
def twoBuildsWrong : ChangeSpec := { name := "twoBuilds", fn := fun _ => fun
  | [d1, d2, d3, d4] => { results := [.lit (.bool false)], args := [d1, d2, d3, d4] }
  | _ => none }
def TwoBuildsWrongFalsely : Prop := twoBuildsRow.holds Tryd.pinned (OpenSpec.ofChange twoBuildsWrong)

/-- 'tapeworkskeep.TwoBack': WHATEVER THE INPUT: true; the input reads as it did. -/
def twoBackSpec : ChangeSpec := { name := "twoBack", fn := fun _ => fun
  | [d] => { results := [.lit (.bool true)], args := [d] }
  | _ => none }
def twoBackRow : OpenClaim := { program := "ytanmgfcgoffahaadoor", sum := "dc197177a5168691e189d3597b594ec6dc24392065ffcb79cb4a9876aaabb199", func := "tapeworks/tapeworkskeep.TwoBack", spec := "twoBack", named := ["tapeworks/two.primes"], apart := false, laid := [("tapeworks/two.primes", laid_tapeworks_two_primes)] }
def TwoBackSaid : Prop := twoBackRow.holds Tryd.pinned (OpenSpec.ofChange twoBackSpec)

/-- ITS FALSE NEIGHBOUR: 'it returns false'. Refute it at one input. -/
def twoBackWrong : ChangeSpec := { name := "twoBack", fn := fun _ => fun
  | [d] => { results := [.lit (.bool false)], args := [d] }
  | _ => none }
def TwoBackWrongFalsely : Prop := twoBackRow.holds Tryd.pinned (OpenSpec.ofChange twoBackWrong)

/-- 'tapeworkskeep.TwoTimes': WHATEVER THE INPUT: true; the input reads as it did. -/
def twoTimesSpec : ChangeSpec := { name := "twoTimes", fn := fun _ => fun
  | [d1, d2] => { results := [.lit (.bool true)], args := [d1, d2] }
  | _ => none }
def twoTimesRow : OpenClaim := { program := "ytanmgfcgoffahaadoor", sum := "dc197177a5168691e189d3597b594ec6dc24392065ffcb79cb4a9876aaabb199", func := "tapeworks/tapeworkskeep.TwoTimes", spec := "twoTimes", named := ["tapeworks/two.primes"], apart := false, laid := [("tapeworks/two.primes", laid_tapeworks_two_primes)] }
def TwoTimesSaid : Prop := twoTimesRow.holds Tryd.pinned (OpenSpec.ofChange twoTimesSpec)

/-- ITS FALSE NEIGHBOUR: 'it returns false'. Refute it at one input. -/
def twoTimesWrong : ChangeSpec := { name := "twoTimes", fn := fun _ => fun
  | [d1, d2] => { results := [.lit (.bool false)], args := [d1, d2] }
  | _ => none }
def TwoTimesWrongFalsely : Prop := twoTimesRow.holds Tryd.pinned (OpenSpec.ofChange twoTimesWrong)

/- THE SECOND FORM. 'bulk': how many values and letters a reading holds, each counted each time it is reached (what is shared counts as often as it is met; a slice's spare places count too). A statement '..UptoSaid' is the law's where the arguments, and the package variables that the reading takes, are together of bulk at most 1048576: NARROWER than '..Said'. Prove '..Said' where nothing that the law and all that it calls make is longer than what came in: it says more and counts as full. Else prove '..UptoSaid'. A law counts once. -/
mutual
def uptoBulk {H : Type} : DataW H → Nat
  | .lit (.string bytes) => bytes.length + 1
  | .lit _ => 1
  | .nil => 1
  | .ptr d => uptoBulk d + 1
  | .slice elems spare => uptoBulkAll elems + uptoBulkAll spare + 1
  | .agg parts => uptoBulkAll parts + 1
  | .iface _ d => uptoBulk d + 1
  | .map entries => uptoBulkEntries entries + 1
  | .held _ => 1
def uptoBulkAll {H : Type} : List (DataW H) → Nat
  | [] => 0
  | d :: r => uptoBulk d + uptoBulkAll r
def uptoBulkEntries {H : Type} : List (Lit × DataW H) → Nat
  | [] => 0
  | x :: r => uptoBulkEntry x + uptoBulkEntries r
def uptoBulkEntry {H : Type} : Lit × DataW H → Nat
  | (.string bytes, d) => bytes.length + uptoBulk d + 1
  | (_, d) => uptoBulk d + 1
 end
def uptoSmall : (H : Type) → List (DataW H) → Bool := fun _ ds => decide (uptoBulkAll ds ≤ 1048576)
def OpenSpec.upto (s : _root_.Go.ChangeSpec) : _root_.Go.OpenSpec := { _root_.Go.OpenSpec.ofChange s with cond := some uptoSmall }

/-- 'tapeworkslaw.TwoPacks', WHERE WHAT IT READS IS OF BULK AT MOST 1048576: true; the input reads as it did. -/
def twoPacksUptoRow : OpenClaim := { program := "ytanmgfcgoffahaadoor", sum := "dc197177a5168691e189d3597b594ec6dc24392065ffcb79cb4a9876aaabb199", func := "tapeworks/tapeworkslaw.TwoPacks", spec := "twoPacks", named := ["tapeworks/two.primes"], apart := false, laid := [("tapeworks/two.primes", laid_tapeworks_two_primes)], narrowed := true }
def TwoPacksUptoSaid : Prop := twoPacksUptoRow.holds Tryd.pinned (OpenSpec.upto twoPacksSpec)

/-- 'tapeworkslaw.TwoOpens', WHERE WHAT IT READS IS OF BULK AT MOST 1048576: true; the input reads as it did. -/
def twoOpensUptoRow : OpenClaim := { program := "ytanmgfcgoffahaadoor", sum := "dc197177a5168691e189d3597b594ec6dc24392065ffcb79cb4a9876aaabb199", func := "tapeworks/tapeworkslaw.TwoOpens", spec := "twoOpens", named := ["tapeworks/two.primes"], apart := false, laid := [("tapeworks/two.primes", laid_tapeworks_two_primes)], narrowed := true }
def TwoOpensUptoSaid : Prop := twoOpensUptoRow.holds Tryd.pinned (OpenSpec.upto twoOpensSpec)

/-- 'tapeworkslaw.TwoBuilds', WHERE WHAT IT READS IS OF BULK AT MOST 1048576: true; the input reads as it did. -/
def twoBuildsUptoRow : OpenClaim := { program := "ytanmgfcgoffahaadoor", sum := "dc197177a5168691e189d3597b594ec6dc24392065ffcb79cb4a9876aaabb199", func := "tapeworks/tapeworkslaw.TwoBuilds", spec := "twoBuilds", unfollowed := true, recurses := true, named := ["tapeworks/two.primes"], apart := false, laid := [("tapeworks/two.primes", laid_tapeworks_two_primes)], narrowed := true }
def TwoBuildsUptoSaid : Prop := twoBuildsUptoRow.holds Tryd.pinned (OpenSpec.upto twoBuildsSpec)

/-- 'tapeworkskeep.TwoBack', WHERE WHAT IT READS IS OF BULK AT MOST 1048576: true; the input reads as it did. -/
def twoBackUptoRow : OpenClaim := { program := "ytanmgfcgoffahaadoor", sum := "dc197177a5168691e189d3597b594ec6dc24392065ffcb79cb4a9876aaabb199", func := "tapeworks/tapeworkskeep.TwoBack", spec := "twoBack", named := ["tapeworks/two.primes"], apart := false, laid := [("tapeworks/two.primes", laid_tapeworks_two_primes)], narrowed := true }
def TwoBackUptoSaid : Prop := twoBackUptoRow.holds Tryd.pinned (OpenSpec.upto twoBackSpec)

/-- 'tapeworkskeep.TwoTimes', WHERE WHAT IT READS IS OF BULK AT MOST 1048576: true; the input reads as it did. -/
def twoTimesUptoRow : OpenClaim := { program := "ytanmgfcgoffahaadoor", sum := "dc197177a5168691e189d3597b594ec6dc24392065ffcb79cb4a9876aaabb199", func := "tapeworks/tapeworkskeep.TwoTimes", spec := "twoTimes", named := ["tapeworks/two.primes"], apart := false, laid := [("tapeworks/two.primes", laid_tapeworks_two_primes)], narrowed := true }
def TwoTimesUptoSaid : Prop := twoTimesUptoRow.holds Tryd.pinned (OpenSpec.upto twoTimesSpec)

end Rows
end Go.Proofs.YtanmgfcgoffahaaDoor
