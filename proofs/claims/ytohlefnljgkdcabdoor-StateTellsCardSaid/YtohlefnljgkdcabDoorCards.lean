/-
  DERIVED. GIVEN WITH THE SEED: THE CARDS: each row of YtohlefnljgkdcabDoorRows.lean that lists a variable, with what it lists TIED to the program's text (the seventh form; the later family's looks); each row that meets fmt, with fmt's text TOLD by the authors' own Lean function (tested against real Go, not proved from fmt's source: count such statements apart). THE CARD IS WHAT COUNTS. Prove the row's statement (the work); the ties are given (YtohlefnljgkdcabDoorTie.lean); close each card by the builder's one call (the guide's Derived/Test/ToyasCard.lean, 'card_holds'). Laid BY PROGRAM, IN A SANDBOX (cutbox-door.mjs). By AI agents, Wed Nov 11 2026. No macro, syntax, notation, axiom, sorry.
-/
import Derived.Test.YtohlefnljgkdcabDoorRows
import GoSem.ClaimSeven
namespace Go.Proofs.YtohlefnljgkdcabDoor
namespace Rows

/-- THE TIED CARD OF 'glebelaw.ProgTells'. -/
def progTellsCard : Claim7 := { stood := { row := progTellsRow, standIns := [], harness := (true, "e971988a438a4c95ea55a575d9cd6db26b1ca52d9381a378b3729dbabd1a17ec"), looks := true }, kinds := [], alts := [], laidByText := true, laidKinds := [.data], laidTests := true, laidLooks := .later }
def ProgTellsCardSaid : Prop := Claim7.holds Tryd.pinned (.plain (OpenSpec.ofChange progTellsSpec)) progTellsCard

/-- THE TIED CARD OF 'glebelaw.ProgTrue'. -/
def progTrueCard : Claim7 := { stood := { row := progTrueRow, standIns := [], harness := (true, "e971988a438a4c95ea55a575d9cd6db26b1ca52d9381a378b3729dbabd1a17ec"), looks := true }, kinds := [], alts := [], laidByText := true, laidKinds := [.data], laidTests := true, laidLooks := .later }
def ProgTrueCardSaid : Prop := Claim7.holds Tryd.pinned (.plain (OpenSpec.ofChange progTrueSpec)) progTrueCard

/-- THE TIED CARD OF 'glebelaw.TrimTells'. -/
def trimTellsCard : Claim7 := { stood := { row := trimTellsRow, standIns := [], harness := (true, "e971988a438a4c95ea55a575d9cd6db26b1ca52d9381a378b3729dbabd1a17ec"), looks := true }, kinds := [], alts := [], laidByText := true, laidKinds := [.data], laidTests := true, laidLooks := .later }
def TrimTellsCardSaid : Prop := Claim7.holds Tryd.pinned (.plain (OpenSpec.ofChange trimTellsSpec)) trimTellsCard

/-- THE TIED CARD OF 'glebelaw.TrimTrue'. -/
def trimTrueCard : Claim7 := { stood := { row := trimTrueRow, standIns := [], harness := (true, "e971988a438a4c95ea55a575d9cd6db26b1ca52d9381a378b3729dbabd1a17ec"), looks := true }, kinds := [], alts := [], laidByText := true, laidKinds := [.data], laidTests := true, laidLooks := .later }
def TrimTrueCardSaid : Prop := Claim7.holds Tryd.pinned (.plain (OpenSpec.ofChange trimTrueSpec)) trimTrueCard

/-- THE TIED CARD OF 'glebelaw.TrimSame'. -/
def trimSameCard : Claim7 := { stood := { row := trimSameRow, standIns := [], harness := (true, "e971988a438a4c95ea55a575d9cd6db26b1ca52d9381a378b3729dbabd1a17ec"), looks := true }, kinds := [], alts := [], laidByText := true, laidKinds := [.data], laidTests := true, laidLooks := .later }
def TrimSameCardSaid : Prop := Claim7.holds Tryd.pinned (.plain (OpenSpec.ofChange trimSameSpec)) trimSameCard

/-- THE TIED CARD OF 'glebelaw.StateTells'. -/
def stateTellsCard : Claim7 := { stood := { row := stateTellsRow, standIns := [], harness := (true, "e971988a438a4c95ea55a575d9cd6db26b1ca52d9381a378b3729dbabd1a17ec"), looks := true }, kinds := [], alts := [], laidByText := true, laidKinds := [.data], laidTests := true, laidLooks := .later }
def StateTellsCardSaid : Prop := Claim7.holds Tryd.pinned (.plain (OpenSpec.ofChange stateTellsSpec)) stateTellsCard

/-- THE SECOND FORM's CARD OF 'glebelaw.ProgTells'. -/
def progTellsUptoCard : Claim7 := { stood := { row := progTellsUptoRow, standIns := [], harness := (true, "e971988a438a4c95ea55a575d9cd6db26b1ca52d9381a378b3729dbabd1a17ec"), looks := true }, kinds := [], alts := [], laidByText := true, laidKinds := [.data], laidTests := true, laidLooks := .later }
def ProgTellsUptoCardSaid : Prop := Claim7.holds Tryd.pinned (.plain (OpenSpec.upto progTellsSpec)) progTellsUptoCard

/-- THE SECOND FORM's CARD OF 'glebelaw.ProgTrue'. -/
def progTrueUptoCard : Claim7 := { stood := { row := progTrueUptoRow, standIns := [], harness := (true, "e971988a438a4c95ea55a575d9cd6db26b1ca52d9381a378b3729dbabd1a17ec"), looks := true }, kinds := [], alts := [], laidByText := true, laidKinds := [.data], laidTests := true, laidLooks := .later }
def ProgTrueUptoCardSaid : Prop := Claim7.holds Tryd.pinned (.plain (OpenSpec.upto progTrueSpec)) progTrueUptoCard

/-- THE SECOND FORM's CARD OF 'glebelaw.TrimTells'. -/
def trimTellsUptoCard : Claim7 := { stood := { row := trimTellsUptoRow, standIns := [], harness := (true, "e971988a438a4c95ea55a575d9cd6db26b1ca52d9381a378b3729dbabd1a17ec"), looks := true }, kinds := [], alts := [], laidByText := true, laidKinds := [.data], laidTests := true, laidLooks := .later }
def TrimTellsUptoCardSaid : Prop := Claim7.holds Tryd.pinned (.plain (OpenSpec.upto trimTellsSpec)) trimTellsUptoCard

/-- THE SECOND FORM's CARD OF 'glebelaw.TrimTrue'. -/
def trimTrueUptoCard : Claim7 := { stood := { row := trimTrueUptoRow, standIns := [], harness := (true, "e971988a438a4c95ea55a575d9cd6db26b1ca52d9381a378b3729dbabd1a17ec"), looks := true }, kinds := [], alts := [], laidByText := true, laidKinds := [.data], laidTests := true, laidLooks := .later }
def TrimTrueUptoCardSaid : Prop := Claim7.holds Tryd.pinned (.plain (OpenSpec.upto trimTrueSpec)) trimTrueUptoCard

/-- THE SECOND FORM's CARD OF 'glebelaw.TrimSame'. -/
def trimSameUptoCard : Claim7 := { stood := { row := trimSameUptoRow, standIns := [], harness := (true, "e971988a438a4c95ea55a575d9cd6db26b1ca52d9381a378b3729dbabd1a17ec"), looks := true }, kinds := [], alts := [], laidByText := true, laidKinds := [.data], laidTests := true, laidLooks := .later }
def TrimSameUptoCardSaid : Prop := Claim7.holds Tryd.pinned (.plain (OpenSpec.upto trimSameSpec)) trimSameUptoCard

/-- THE SECOND FORM's CARD OF 'glebelaw.StateTells'. -/
def stateTellsUptoCard : Claim7 := { stood := { row := stateTellsUptoRow, standIns := [], harness := (true, "e971988a438a4c95ea55a575d9cd6db26b1ca52d9381a378b3729dbabd1a17ec"), looks := true }, kinds := [], alts := [], laidByText := true, laidKinds := [.data], laidTests := true, laidLooks := .later }
def StateTellsUptoCardSaid : Prop := Claim7.holds Tryd.pinned (.plain (OpenSpec.upto stateTellsSpec)) stateTellsUptoCard
end Rows
end Go.Proofs.YtohlefnljgkdcabDoor
