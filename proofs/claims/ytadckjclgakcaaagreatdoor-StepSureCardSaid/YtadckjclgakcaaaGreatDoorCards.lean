/-
  DERIVED. GIVEN WITH THE SEED: THE CARDS: each row of YtadckjclgakcaaaGreatDoorRows.lean that lists a variable, with what it lists TIED to the program's text (the seventh form; the later family's looks); each row that meets fmt, with fmt's text TOLD by the authors' own Lean function (tested against real Go, not proved from fmt's source: count such statements apart). THE CARD IS WHAT COUNTS. Prove the row's statement (the work); the ties are given (YtadckjclgakcaaaGreatDoorTie.lean); close each card by the builder's one call (the guide's Derived/Test/ToyasCard.lean, 'card_holds'). Laid BY PROGRAM, IN A SANDBOX (cutbox-door.mjs). By AI agents, Wed Nov 11 2026. No macro, syntax, notation, axiom, sorry.
-/
import Derived.Test.YtadckjclgakcaaaGreatDoorRows
import GoSem.ClaimSeven
namespace Go.Proofs.YtadckjclgakcaaaGreatDoor
namespace Rows

/-- THE TIED CARD OF 'glebelaw.StepDoes'. -/
def stepDoesCard : Claim7 := { stood := { row := stepDoesRow, standIns := [], harness := (true, "3e59de4de6c408de3bdf446d74ab2bf28bb55f0e268018b13e908c7a32fa158f"), looks := true }, kinds := [], alts := [], laidByText := true, laidKinds := [.data], laidTests := true, laidLooks := .later }
def StepDoesCardSaid : Prop := Claim7.holds Tryz.pinned (.plain (OpenSpec.ofChange stepDoesSpec)) stepDoesCard

/-- THE TIED CARD OF 'glebelaw.StepRight'. -/
def stepRightCard : Claim7 := { stood := { row := stepRightRow, standIns := [], harness := (true, "3e59de4de6c408de3bdf446d74ab2bf28bb55f0e268018b13e908c7a32fa158f"), looks := true }, kinds := [], alts := [], laidByText := true, laidKinds := [.data], laidTests := true, laidLooks := .later }
def StepRightCardSaid : Prop := Claim7.holds Tryz.pinned (.plain (OpenSpec.ofChange stepRightSpec)) stepRightCard

/-- THE TIED CARD OF 'glebelaw.StepOne'. -/
def stepOneCard : Claim7 := { stood := { row := stepOneRow, standIns := [], harness := (true, "3e59de4de6c408de3bdf446d74ab2bf28bb55f0e268018b13e908c7a32fa158f"), looks := true }, kinds := [], alts := [], laidByText := true, laidKinds := [.data], laidTests := true, laidLooks := .later }
def StepOneCardSaid : Prop := Claim7.holds Tryz.pinned (.plain (OpenSpec.ofChange stepOneSpec)) stepOneCard

/-- THE TIED CARD OF 'glebelaw.StepSure'. -/
def stepSureCard : Claim7 := { stood := { row := stepSureRow, standIns := [], harness := (true, "3e59de4de6c408de3bdf446d74ab2bf28bb55f0e268018b13e908c7a32fa158f"), looks := true }, kinds := [], alts := [], laidByText := true, laidKinds := [.data], laidTests := true, laidLooks := .later }
def StepSureCardSaid : Prop := Claim7.holds Tryz.pinned (.plain (OpenSpec.ofChange stepSureSpec)) stepSureCard

/-- THE TIED CARD OF 'glebelaw.StepBack'. -/
def stepBackCard : Claim7 := { stood := { row := stepBackRow, standIns := [], harness := (true, "3e59de4de6c408de3bdf446d74ab2bf28bb55f0e268018b13e908c7a32fa158f"), looks := true }, kinds := [], alts := [], laidByText := true, laidKinds := [.data], laidTests := true, laidLooks := .later }
def StepBackCardSaid : Prop := Claim7.holds Tryz.pinned (.plain (OpenSpec.ofChange stepBackSpec)) stepBackCard

/-- THE TIED CARD OF 'glebelaw.RunRuns'. -/
def runRunsCard : Claim7 := { stood := { row := runRunsRow, standIns := [], harness := (true, "3e59de4de6c408de3bdf446d74ab2bf28bb55f0e268018b13e908c7a32fa158f"), looks := true }, kinds := [], alts := [], laidByText := true, laidKinds := [.data], laidTests := true, laidLooks := .later }
def RunRunsCardSaid : Prop := Claim7.holds Tryz.pinned (.plain (OpenSpec.ofChange runRunsSpec)) runRunsCard

/-- THE SECOND FORM's CARD OF 'glebelaw.StepDoes'. -/
def stepDoesUptoCard : Claim7 := { stood := { row := stepDoesUptoRow, standIns := [], harness := (true, "3e59de4de6c408de3bdf446d74ab2bf28bb55f0e268018b13e908c7a32fa158f"), looks := true }, kinds := [], alts := [], laidByText := true, laidKinds := [.data], laidTests := true, laidLooks := .later }
def StepDoesUptoCardSaid : Prop := Claim7.holds Tryz.pinned (.plain (OpenSpec.upto stepDoesSpec)) stepDoesUptoCard

/-- THE SECOND FORM's CARD OF 'glebelaw.StepRight'. -/
def stepRightUptoCard : Claim7 := { stood := { row := stepRightUptoRow, standIns := [], harness := (true, "3e59de4de6c408de3bdf446d74ab2bf28bb55f0e268018b13e908c7a32fa158f"), looks := true }, kinds := [], alts := [], laidByText := true, laidKinds := [.data], laidTests := true, laidLooks := .later }
def StepRightUptoCardSaid : Prop := Claim7.holds Tryz.pinned (.plain (OpenSpec.upto stepRightSpec)) stepRightUptoCard

/-- THE SECOND FORM's CARD OF 'glebelaw.StepOne'. -/
def stepOneUptoCard : Claim7 := { stood := { row := stepOneUptoRow, standIns := [], harness := (true, "3e59de4de6c408de3bdf446d74ab2bf28bb55f0e268018b13e908c7a32fa158f"), looks := true }, kinds := [], alts := [], laidByText := true, laidKinds := [.data], laidTests := true, laidLooks := .later }
def StepOneUptoCardSaid : Prop := Claim7.holds Tryz.pinned (.plain (OpenSpec.upto stepOneSpec)) stepOneUptoCard

/-- THE SECOND FORM's CARD OF 'glebelaw.StepSure'. -/
def stepSureUptoCard : Claim7 := { stood := { row := stepSureUptoRow, standIns := [], harness := (true, "3e59de4de6c408de3bdf446d74ab2bf28bb55f0e268018b13e908c7a32fa158f"), looks := true }, kinds := [], alts := [], laidByText := true, laidKinds := [.data], laidTests := true, laidLooks := .later }
def StepSureUptoCardSaid : Prop := Claim7.holds Tryz.pinned (.plain (OpenSpec.upto stepSureSpec)) stepSureUptoCard

/-- THE SECOND FORM's CARD OF 'glebelaw.StepBack'. -/
def stepBackUptoCard : Claim7 := { stood := { row := stepBackUptoRow, standIns := [], harness := (true, "3e59de4de6c408de3bdf446d74ab2bf28bb55f0e268018b13e908c7a32fa158f"), looks := true }, kinds := [], alts := [], laidByText := true, laidKinds := [.data], laidTests := true, laidLooks := .later }
def StepBackUptoCardSaid : Prop := Claim7.holds Tryz.pinned (.plain (OpenSpec.upto stepBackSpec)) stepBackUptoCard

/-- THE SECOND FORM's CARD OF 'glebelaw.RunRuns'. -/
def runRunsUptoCard : Claim7 := { stood := { row := runRunsUptoRow, standIns := [], harness := (true, "3e59de4de6c408de3bdf446d74ab2bf28bb55f0e268018b13e908c7a32fa158f"), looks := true }, kinds := [], alts := [], laidByText := true, laidKinds := [.data], laidTests := true, laidLooks := .later }
def RunRunsUptoCardSaid : Prop := Claim7.holds Tryz.pinned (.plain (OpenSpec.upto runRunsSpec)) runRunsUptoCard
end Rows
end Go.Proofs.YtadckjclgakcaaaGreatDoor
