/-
  DERIVED. GIVEN WITH THE SEED: THE CARDS: each row of YtokhibfenccijaaGreatDoorRows.lean that lists a variable, with what it lists TIED to the program's text (the seventh form; the later family's looks); each row that meets fmt, with fmt's text TOLD by the authors' own Lean function (tested against real Go, not proved from fmt's source: count such statements apart). THE CARD IS WHAT COUNTS. Prove the row's statement (the work); the ties are given (YtokhibfenccijaaGreatDoorTie.lean); close each card by the builder's one call (the guide's Derived/Test/ToyasCard.lean, 'card_holds'). Laid BY PROGRAM, IN A SANDBOX (cutbox-door.mjs). By AI agents, Wed Nov 11 2026. No macro, syntax, notation, axiom, sorry.
-/
import Derived.Test.YtokhibfenccijaaGreatDoorRows
import GoSem.ClaimSeven
namespace Go.Proofs.YtokhibfenccijaaGreatDoor
namespace Rows

/-- THE TIED CARD OF 'glebelaw.DeskPlays'. -/
def deskPlaysCard : Claim7 := { stood := { row := deskPlaysRow, standIns := [], harness := (true, "6dcf8fb0ce4b91b91c985a8f3d6f93e0e2d490efe26a11bffb6b263655482870"), looks := true }, kinds := [], alts := [], laidByText := true, laidKinds := [.data, .data, .data, .data, .data, .sentinel, .sentinel, .data, .pinned], laidTests := true, laidLooks := .later }
def DeskPlaysCardSaid : Prop := Claim7.holds Tryz.pinned (.plain (OpenSpec.ofChange deskPlaysSpec)) deskPlaysCard

/-- THE TIED CARD OF 'glebelaw.DeskSteps'. -/
def deskStepsCard : Claim7 := { stood := { row := deskStepsRow, standIns := [], harness := (true, "6dcf8fb0ce4b91b91c985a8f3d6f93e0e2d490efe26a11bffb6b263655482870"), looks := true }, kinds := [], alts := [], laidByText := true, laidKinds := [.data, .data, .data, .data, .data, .sentinel, .sentinel, .data, .pinned], laidTests := true, laidLooks := .later }
def DeskStepsCardSaid : Prop := Claim7.holds Tryz.pinned (.plain (OpenSpec.ofChange deskStepsSpec)) deskStepsCard

/-- THE SECOND FORM's CARD OF 'glebelaw.DeskPlays'. -/
def deskPlaysUptoCard : Claim7 := { stood := { row := deskPlaysUptoRow, standIns := [], harness := (true, "6dcf8fb0ce4b91b91c985a8f3d6f93e0e2d490efe26a11bffb6b263655482870"), looks := true }, kinds := [], alts := [], laidByText := true, laidKinds := [.data, .data, .data, .data, .data, .sentinel, .sentinel, .data, .pinned], laidTests := true, laidLooks := .later }
def DeskPlaysUptoCardSaid : Prop := Claim7.holds Tryz.pinned (.plain (OpenSpec.upto deskPlaysSpec)) deskPlaysUptoCard

/-- THE SECOND FORM's CARD OF 'glebelaw.DeskSteps'. -/
def deskStepsUptoCard : Claim7 := { stood := { row := deskStepsUptoRow, standIns := [], harness := (true, "6dcf8fb0ce4b91b91c985a8f3d6f93e0e2d490efe26a11bffb6b263655482870"), looks := true }, kinds := [], alts := [], laidByText := true, laidKinds := [.data, .data, .data, .data, .data, .sentinel, .sentinel, .data, .pinned], laidTests := true, laidLooks := .later }
def DeskStepsUptoCardSaid : Prop := Claim7.holds Tryz.pinned (.plain (OpenSpec.upto deskStepsSpec)) deskStepsUptoCard
end Rows
end Go.Proofs.YtokhibfenccijaaGreatDoor
