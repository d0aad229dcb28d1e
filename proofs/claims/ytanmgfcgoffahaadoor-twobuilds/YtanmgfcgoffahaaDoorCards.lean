/-
  DERIVED. GIVEN WITH THE SEED: THE CARDS: each row of YtanmgfcgoffahaaDoorRows.lean that lists a variable, with what it lists TIED to the program's text (the seventh form; the later family's looks); each row that meets fmt, with fmt's text TOLD by the authors' own Lean function (tested against real Go, not proved from fmt's source: count such statements apart). THE CARD IS WHAT COUNTS. Prove the row's statement (the work); the ties are given (YtanmgfcgoffahaaDoorTie.lean); close each card by the builder's one call (the guide's Derived/Test/ToyasCard.lean, 'card_holds'). Laid BY PROGRAM, IN A SANDBOX (cutbox-door.mjs). By AI agents, Wed Nov 11 2026. No macro, syntax, notation, axiom, sorry.
-/
import Derived.Test.YtanmgfcgoffahaaDoorRows
import GoSem.ClaimSeven
namespace Go.Proofs.YtanmgfcgoffahaaDoor
namespace Rows

/-- THE TIED CARD OF 'tapeworkslaw.TwoPacks'. -/
def twoPacksCard : Claim7 := { stood := { row := twoPacksRow, standIns := [], harness := (true, "7c311db4e37b5dccc0990b66dd926de2e0805e9f4338a1b0e7797fc0aa290842"), looks := false }, kinds := [], alts := [], laidByText := true, laidKinds := [.data], laidTests := true, laidLooks := .later }
def TwoPacksCardSaid : Prop := Claim7.holds Tryd.pinned (.plain (OpenSpec.ofChange twoPacksSpec)) twoPacksCard

/-- THE TIED CARD OF 'tapeworkslaw.TwoOpens'. -/
def twoOpensCard : Claim7 := { stood := { row := twoOpensRow, standIns := [], harness := (true, "7c311db4e37b5dccc0990b66dd926de2e0805e9f4338a1b0e7797fc0aa290842"), looks := false }, kinds := [], alts := [], laidByText := true, laidKinds := [.data], laidTests := true, laidLooks := .later }
def TwoOpensCardSaid : Prop := Claim7.holds Tryd.pinned (.plain (OpenSpec.ofChange twoOpensSpec)) twoOpensCard

/-- THE TIED CARD OF 'tapeworkslaw.TwoBuilds'. -/
def twoBuildsCard : Claim7 := { stood := { row := twoBuildsRow, standIns := [], harness := (true, "7c311db4e37b5dccc0990b66dd926de2e0805e9f4338a1b0e7797fc0aa290842"), looks := false }, kinds := [], alts := [], laidByText := true, laidKinds := [.data], laidTests := true, laidLooks := .later }
def TwoBuildsCardSaid : Prop := Claim7.holds Tryd.pinned (.plain (OpenSpec.ofChange twoBuildsSpec)) twoBuildsCard

/-- THE TIED CARD OF 'tapeworkskeep.TwoBack'. -/
def twoBackCard : Claim7 := { stood := { row := twoBackRow, standIns := [], harness := (true, "7c311db4e37b5dccc0990b66dd926de2e0805e9f4338a1b0e7797fc0aa290842"), looks := false }, kinds := [], alts := [], laidByText := true, laidKinds := [.data], laidTests := true, laidLooks := .later }
def TwoBackCardSaid : Prop := Claim7.holds Tryd.pinned (.plain (OpenSpec.ofChange twoBackSpec)) twoBackCard

/-- THE TIED CARD OF 'tapeworkskeep.TwoTimes'. -/
def twoTimesCard : Claim7 := { stood := { row := twoTimesRow, standIns := [], harness := (true, "7c311db4e37b5dccc0990b66dd926de2e0805e9f4338a1b0e7797fc0aa290842"), looks := false }, kinds := [], alts := [], laidByText := true, laidKinds := [.data], laidTests := true, laidLooks := .later }
def TwoTimesCardSaid : Prop := Claim7.holds Tryd.pinned (.plain (OpenSpec.ofChange twoTimesSpec)) twoTimesCard

/-- THE SECOND FORM's CARD OF 'tapeworkslaw.TwoPacks'. -/
def twoPacksUptoCard : Claim7 := { stood := { row := twoPacksUptoRow, standIns := [], harness := (true, "7c311db4e37b5dccc0990b66dd926de2e0805e9f4338a1b0e7797fc0aa290842"), looks := false }, kinds := [], alts := [], laidByText := true, laidKinds := [.data], laidTests := true, laidLooks := .later }
def TwoPacksUptoCardSaid : Prop := Claim7.holds Tryd.pinned (.plain (OpenSpec.upto twoPacksSpec)) twoPacksUptoCard

/-- THE SECOND FORM's CARD OF 'tapeworkslaw.TwoOpens'. -/
def twoOpensUptoCard : Claim7 := { stood := { row := twoOpensUptoRow, standIns := [], harness := (true, "7c311db4e37b5dccc0990b66dd926de2e0805e9f4338a1b0e7797fc0aa290842"), looks := false }, kinds := [], alts := [], laidByText := true, laidKinds := [.data], laidTests := true, laidLooks := .later }
def TwoOpensUptoCardSaid : Prop := Claim7.holds Tryd.pinned (.plain (OpenSpec.upto twoOpensSpec)) twoOpensUptoCard

/-- THE SECOND FORM's CARD OF 'tapeworkslaw.TwoBuilds'. -/
def twoBuildsUptoCard : Claim7 := { stood := { row := twoBuildsUptoRow, standIns := [], harness := (true, "7c311db4e37b5dccc0990b66dd926de2e0805e9f4338a1b0e7797fc0aa290842"), looks := false }, kinds := [], alts := [], laidByText := true, laidKinds := [.data], laidTests := true, laidLooks := .later }
def TwoBuildsUptoCardSaid : Prop := Claim7.holds Tryd.pinned (.plain (OpenSpec.upto twoBuildsSpec)) twoBuildsUptoCard

/-- THE SECOND FORM's CARD OF 'tapeworkskeep.TwoBack'. -/
def twoBackUptoCard : Claim7 := { stood := { row := twoBackUptoRow, standIns := [], harness := (true, "7c311db4e37b5dccc0990b66dd926de2e0805e9f4338a1b0e7797fc0aa290842"), looks := false }, kinds := [], alts := [], laidByText := true, laidKinds := [.data], laidTests := true, laidLooks := .later }
def TwoBackUptoCardSaid : Prop := Claim7.holds Tryd.pinned (.plain (OpenSpec.upto twoBackSpec)) twoBackUptoCard

/-- THE SECOND FORM's CARD OF 'tapeworkskeep.TwoTimes'. -/
def twoTimesUptoCard : Claim7 := { stood := { row := twoTimesUptoRow, standIns := [], harness := (true, "7c311db4e37b5dccc0990b66dd926de2e0805e9f4338a1b0e7797fc0aa290842"), looks := false }, kinds := [], alts := [], laidByText := true, laidKinds := [.data], laidTests := true, laidLooks := .later }
def TwoTimesUptoCardSaid : Prop := Claim7.holds Tryd.pinned (.plain (OpenSpec.upto twoTimesSpec)) twoTimesUptoCard
end Rows
end Go.Proofs.YtanmgfcgoffahaaDoor
