/-
  DERIVED. GIVEN WITH THE SEED: THE CARDS: each row of YtogcfkmekdpmmaaDoorRows.lean that lists a variable, with what it lists TIED to the program's text (the seventh form; the later family's looks); each row that meets fmt, with fmt's text TOLD by the authors' own Lean function (tested against real Go, not proved from fmt's source: count such statements apart). THE CARD IS WHAT COUNTS. Prove the row's statement (the work); the ties are given (YtogcfkmekdpmmaaDoorTie.lean); close each card by the builder's one call (the guide's Derived/Test/ToyasCard.lean, 'card_holds'). Laid BY PROGRAM, IN A SANDBOX (cutbox-door.mjs). By AI agents, Wed Nov 11 2026. No macro, syntax, notation, axiom, sorry.
-/
import Derived.Test.YtogcfkmekdpmmaaDoorRows
import GoSem.ClaimSeven
namespace Go.Proofs.YtogcfkmekdpmmaaDoor
namespace Rows

/-- THE TIED CARD OF 'glebelaw.RunAll'. -/
def runAllCard : Claim7 := { stood := { row := runAllRow, standIns := [], harness := (true, "3afce4c668dab0c23d23d52985c079898a077b49f66b7da3dabc54152cf8abe3"), looks := true }, kinds := [], alts := [], laidByText := true, laidKinds := [.data], laidTests := true, laidLooks := .later }
def RunAllCardSaid : Prop := Claim7.holds Tryd.pinned (.plain (OpenSpec.ofChange runAllSpec)) runAllCard

/-- THE TIED CARD OF 'glebelaw.ForgeTells'. -/
def forgeTellsCard : Claim7 := { stood := { row := forgeTellsRow, standIns := [], harness := (true, "3afce4c668dab0c23d23d52985c079898a077b49f66b7da3dabc54152cf8abe3"), looks := true }, kinds := [], alts := [], laidByText := true, laidKinds := [.data, .data], laidTests := true, laidLooks := .later }
def ForgeTellsCardSaid : Prop := Claim7.holds Tryd.pinned (.plain (OpenSpec.ofChange forgeTellsSpec)) forgeTellsCard

/-- THE TIED CARD OF 'glebelaw.ForgeRight'. -/
def forgeRightCard : Claim7 := { stood := { row := forgeRightRow, standIns := [], harness := (true, "3afce4c668dab0c23d23d52985c079898a077b49f66b7da3dabc54152cf8abe3"), looks := true }, kinds := [], alts := [], laidByText := true, laidKinds := [.data, .data], laidTests := true, laidLooks := .later }
def ForgeRightCardSaid : Prop := Claim7.holds Tryd.pinned (.plain (OpenSpec.ofChange forgeRightSpec)) forgeRightCard

/-- THE TIED CARD OF 'glebelaw.ForgeSafe'. -/
def forgeSafeCard : Claim7 := { stood := { row := forgeSafeRow, standIns := [], harness := (true, "3afce4c668dab0c23d23d52985c079898a077b49f66b7da3dabc54152cf8abe3"), looks := true }, kinds := [], alts := [], laidByText := true, laidKinds := [.data, .data], laidTests := true, laidLooks := .later }
def ForgeSafeCardSaid : Prop := Claim7.holds Tryd.pinned (.plain (OpenSpec.ofChange forgeSafeSpec)) forgeSafeCard

/-- THE TIED CARD OF 'glebelaw.ForgeFit'. -/
def forgeFitCard : Claim7 := { stood := { row := forgeFitRow, standIns := [], harness := (true, "3afce4c668dab0c23d23d52985c079898a077b49f66b7da3dabc54152cf8abe3"), looks := true }, kinds := [], alts := [], laidByText := true, laidKinds := [.data, .data], laidTests := true, laidLooks := .later }
def ForgeFitCardSaid : Prop := Claim7.holds Tryd.pinned (.plain (OpenSpec.ofChange forgeFitSpec)) forgeFitCard

/-- THE SECOND FORM's CARD OF 'glebelaw.RunAll'. -/
def runAllUptoCard : Claim7 := { stood := { row := runAllUptoRow, standIns := [], harness := (true, "3afce4c668dab0c23d23d52985c079898a077b49f66b7da3dabc54152cf8abe3"), looks := true }, kinds := [], alts := [], laidByText := true, laidKinds := [.data], laidTests := true, laidLooks := .later }
def RunAllUptoCardSaid : Prop := Claim7.holds Tryd.pinned (.plain (OpenSpec.upto runAllSpec)) runAllUptoCard

/-- THE SECOND FORM's CARD OF 'glebelaw.ForgeTells'. -/
def forgeTellsUptoCard : Claim7 := { stood := { row := forgeTellsUptoRow, standIns := [], harness := (true, "3afce4c668dab0c23d23d52985c079898a077b49f66b7da3dabc54152cf8abe3"), looks := true }, kinds := [], alts := [], laidByText := true, laidKinds := [.data, .data], laidTests := true, laidLooks := .later }
def ForgeTellsUptoCardSaid : Prop := Claim7.holds Tryd.pinned (.plain (OpenSpec.upto forgeTellsSpec)) forgeTellsUptoCard

/-- THE SECOND FORM's CARD OF 'glebelaw.ForgeRight'. -/
def forgeRightUptoCard : Claim7 := { stood := { row := forgeRightUptoRow, standIns := [], harness := (true, "3afce4c668dab0c23d23d52985c079898a077b49f66b7da3dabc54152cf8abe3"), looks := true }, kinds := [], alts := [], laidByText := true, laidKinds := [.data, .data], laidTests := true, laidLooks := .later }
def ForgeRightUptoCardSaid : Prop := Claim7.holds Tryd.pinned (.plain (OpenSpec.upto forgeRightSpec)) forgeRightUptoCard

/-- THE SECOND FORM's CARD OF 'glebelaw.ForgeSafe'. -/
def forgeSafeUptoCard : Claim7 := { stood := { row := forgeSafeUptoRow, standIns := [], harness := (true, "3afce4c668dab0c23d23d52985c079898a077b49f66b7da3dabc54152cf8abe3"), looks := true }, kinds := [], alts := [], laidByText := true, laidKinds := [.data, .data], laidTests := true, laidLooks := .later }
def ForgeSafeUptoCardSaid : Prop := Claim7.holds Tryd.pinned (.plain (OpenSpec.upto forgeSafeSpec)) forgeSafeUptoCard

/-- THE SECOND FORM's CARD OF 'glebelaw.ForgeFit'. -/
def forgeFitUptoCard : Claim7 := { stood := { row := forgeFitUptoRow, standIns := [], harness := (true, "3afce4c668dab0c23d23d52985c079898a077b49f66b7da3dabc54152cf8abe3"), looks := true }, kinds := [], alts := [], laidByText := true, laidKinds := [.data, .data], laidTests := true, laidLooks := .later }
def ForgeFitUptoCardSaid : Prop := Claim7.holds Tryd.pinned (.plain (OpenSpec.upto forgeFitSpec)) forgeFitUptoCard
end Rows
end Go.Proofs.YtogcfkmekdpmmaaDoor
