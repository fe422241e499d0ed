/-
  DERIVED. GIVEN WITH THE SEED: THE CARDS: each row of YtblihfpigjiahaaGreatDoorRows.lean that lists a variable, with what it lists TIED to the program's text (the seventh form; the later family's looks); each row that meets fmt, with fmt's text TOLD by the authors' own Lean function (tested against real Go, not proved from fmt's source: count such statements apart). THE CARD IS WHAT COUNTS. Prove the row's statement (the work); the ties are given (YtblihfpigjiahaaGreatDoorTie.lean); close each card by the builder's one call (the guide's Derived/Test/ToyasCard.lean, 'card_holds'). Laid BY PROGRAM, IN A SANDBOX (cutbox-door.mjs). By AI agents, Wed Nov 11 2026. No macro, syntax, notation, axiom, sorry.
-/
import Derived.Test.YtblihfpigjiahaaGreatDoorRows
import GoSem.ClaimSeven
namespace Go.Proofs.YtblihfpigjiahaaGreatDoor
namespace Rows

/-- THE TIED CARD OF 'glebelaw.SaveOn'. -/
def saveOnCard : Claim7 := { stood := { row := saveOnRow, standIns := [], harness := (true, "ad256d37274e69d46a1cc4a9c1d4714a9ffb2075ea3e0ed05103b6fed99954f7"), looks := true }, kinds := [], alts := [], laidByText := true, laidKinds := [.data], laidTests := true, laidLooks := .later }
def SaveOnCardSaid : Prop := Claim7.holds Tryz.pinned (.plain (OpenSpec.ofChange saveOnSpec)) saveOnCard

/-- THE TIED CARD OF 'glebelaw.RestStates'. -/
def restStatesCard : Claim7 := { stood := { row := restStatesRow, standIns := [], harness := (true, "ad256d37274e69d46a1cc4a9c1d4714a9ffb2075ea3e0ed05103b6fed99954f7"), looks := true }, kinds := [], alts := [], laidByText := true, laidKinds := [.data], laidTests := true, laidLooks := .later }
def RestStatesCardSaid : Prop := Claim7.holds Tryz.pinned (.plain (OpenSpec.ofChange restStatesSpec)) restStatesCard

/-- THE SECOND FORM's CARD OF 'glebelaw.SaveOn'. -/
def saveOnUptoCard : Claim7 := { stood := { row := saveOnUptoRow, standIns := [], harness := (true, "ad256d37274e69d46a1cc4a9c1d4714a9ffb2075ea3e0ed05103b6fed99954f7"), looks := true }, kinds := [], alts := [], laidByText := true, laidKinds := [.data], laidTests := true, laidLooks := .later }
def SaveOnUptoCardSaid : Prop := Claim7.holds Tryz.pinned (.plain (OpenSpec.upto saveOnSpec)) saveOnUptoCard

/-- THE SECOND FORM's CARD OF 'glebelaw.RestStates'. -/
def restStatesUptoCard : Claim7 := { stood := { row := restStatesUptoRow, standIns := [], harness := (true, "ad256d37274e69d46a1cc4a9c1d4714a9ffb2075ea3e0ed05103b6fed99954f7"), looks := true }, kinds := [], alts := [], laidByText := true, laidKinds := [.data], laidTests := true, laidLooks := .later }
def RestStatesUptoCardSaid : Prop := Claim7.holds Tryz.pinned (.plain (OpenSpec.upto restStatesSpec)) restStatesUptoCard
end Rows
end Go.Proofs.YtblihfpigjiahaaGreatDoor
