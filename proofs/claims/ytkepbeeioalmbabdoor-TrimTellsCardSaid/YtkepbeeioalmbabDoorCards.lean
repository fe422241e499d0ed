/-
  DERIVED. GIVEN WITH THE SEED: THE CARDS: each row of YtkepbeeioalmbabDoorRows.lean that lists a variable, with what it lists TIED to the program's text (the seventh form; the later family's looks); each row that meets fmt, with fmt's text TOLD by the authors' own Lean function (tested against real Go, not proved from fmt's source: count such statements apart). THE CARD IS WHAT COUNTS. Prove the row's statement (the work); the ties are given (YtkepbeeioalmbabDoorTie.lean); close each card by the builder's one call (the guide's Derived/Test/ToyasCard.lean, 'card_holds'). Laid BY PROGRAM, IN A SANDBOX (cutbox-door.mjs). By AI agents, Wed Nov 11 2026. No macro, syntax, notation, axiom, sorry.
-/
import Derived.Test.YtkepbeeioalmbabDoorRows
import GoSem.ClaimSeven
namespace Go.Proofs.YtkepbeeioalmbabDoor
namespace Rows

/-- THE TIED CARD OF 'glebelaw.ProgTells'. -/
def progTellsCard : Claim7 := { stood := { row := progTellsRow, standIns := [], harness := (true, "d164e4de89c3971a2c086b590068db79972d8a3061bb87e207152d3a11b07abf"), looks := false }, kinds := [], alts := [], laidByText := true, laidKinds := [.data], laidTests := true, laidLooks := .later }
def ProgTellsCardSaid : Prop := Claim7.holds Tryd.pinned (.plain (OpenSpec.ofChange progTellsSpec)) progTellsCard

/-- THE TIED CARD OF 'glebelaw.ProgTrue'. -/
def progTrueCard : Claim7 := { stood := { row := progTrueRow, standIns := [], harness := (true, "d164e4de89c3971a2c086b590068db79972d8a3061bb87e207152d3a11b07abf"), looks := false }, kinds := [], alts := [], laidByText := true, laidKinds := [.data], laidTests := true, laidLooks := .later }
def ProgTrueCardSaid : Prop := Claim7.holds Tryd.pinned (.plain (OpenSpec.ofChange progTrueSpec)) progTrueCard

/-- THE TIED CARD OF 'glebelaw.TrimTells'. -/
def trimTellsCard : Claim7 := { stood := { row := trimTellsRow, standIns := [], harness := (true, "d164e4de89c3971a2c086b590068db79972d8a3061bb87e207152d3a11b07abf"), looks := false }, kinds := [], alts := [], laidByText := true, laidKinds := [.data], laidTests := true, laidLooks := .later }
def TrimTellsCardSaid : Prop := Claim7.holds Tryd.pinned (.plain (OpenSpec.ofChange trimTellsSpec)) trimTellsCard

/-- THE TIED CARD OF 'glebelaw.TrimTrue'. -/
def trimTrueCard : Claim7 := { stood := { row := trimTrueRow, standIns := [], harness := (true, "d164e4de89c3971a2c086b590068db79972d8a3061bb87e207152d3a11b07abf"), looks := false }, kinds := [], alts := [], laidByText := true, laidKinds := [.data], laidTests := true, laidLooks := .later }
def TrimTrueCardSaid : Prop := Claim7.holds Tryd.pinned (.plain (OpenSpec.ofChange trimTrueSpec)) trimTrueCard

/-- THE SECOND FORM's CARD OF 'glebelaw.ProgTells'. -/
def progTellsUptoCard : Claim7 := { stood := { row := progTellsUptoRow, standIns := [], harness := (true, "d164e4de89c3971a2c086b590068db79972d8a3061bb87e207152d3a11b07abf"), looks := false }, kinds := [], alts := [], laidByText := true, laidKinds := [.data], laidTests := true, laidLooks := .later }
def ProgTellsUptoCardSaid : Prop := Claim7.holds Tryd.pinned (.plain (OpenSpec.upto progTellsSpec)) progTellsUptoCard

/-- THE SECOND FORM's CARD OF 'glebelaw.ProgTrue'. -/
def progTrueUptoCard : Claim7 := { stood := { row := progTrueUptoRow, standIns := [], harness := (true, "d164e4de89c3971a2c086b590068db79972d8a3061bb87e207152d3a11b07abf"), looks := false }, kinds := [], alts := [], laidByText := true, laidKinds := [.data], laidTests := true, laidLooks := .later }
def ProgTrueUptoCardSaid : Prop := Claim7.holds Tryd.pinned (.plain (OpenSpec.upto progTrueSpec)) progTrueUptoCard

/-- THE SECOND FORM's CARD OF 'glebelaw.TrimTells'. -/
def trimTellsUptoCard : Claim7 := { stood := { row := trimTellsUptoRow, standIns := [], harness := (true, "d164e4de89c3971a2c086b590068db79972d8a3061bb87e207152d3a11b07abf"), looks := false }, kinds := [], alts := [], laidByText := true, laidKinds := [.data], laidTests := true, laidLooks := .later }
def TrimTellsUptoCardSaid : Prop := Claim7.holds Tryd.pinned (.plain (OpenSpec.upto trimTellsSpec)) trimTellsUptoCard

/-- THE SECOND FORM's CARD OF 'glebelaw.TrimTrue'. -/
def trimTrueUptoCard : Claim7 := { stood := { row := trimTrueUptoRow, standIns := [], harness := (true, "d164e4de89c3971a2c086b590068db79972d8a3061bb87e207152d3a11b07abf"), looks := false }, kinds := [], alts := [], laidByText := true, laidKinds := [.data], laidTests := true, laidLooks := .later }
def TrimTrueUptoCardSaid : Prop := Claim7.holds Tryd.pinned (.plain (OpenSpec.upto trimTrueSpec)) trimTrueUptoCard
end Rows
end Go.Proofs.YtkepbeeioalmbabDoor
