/-
  DERIVED. GIVEN WITH THE SEED: THE CARDS: each row of YtblihfpigjiahaaDoorRows.lean that lists a variable, with what it lists TIED to the program's text (the seventh form; the later family's looks); each row that meets fmt, with fmt's text TOLD by the authors' own Lean function (tested against real Go, not proved from fmt's source: count such statements apart). THE CARD IS WHAT COUNTS. Prove the row's statement (the work); the ties are given (YtblihfpigjiahaaDoorTie.lean); close each card by the builder's one call (the guide's Derived/Test/ToyasCard.lean, 'card_holds'). Laid BY PROGRAM, IN A SANDBOX (cutbox-door.mjs). By AI agents, Wed Nov 11 2026. No macro, syntax, notation, axiom, sorry.
-/
import Derived.Test.YtblihfpigjiahaaDoorRows
import GoSem.ClaimSeven
namespace Go.Proofs.YtblihfpigjiahaaDoor
namespace Rows

/-- THE TIED CARD OF 'glebelaw.SaveWrites'. -/
def saveWritesCard : Claim7 := { stood := { row := saveWritesRow, standIns := [], harness := (true, "218c60e1d49444acdd94874006c6d75caae19a6744832da68d5eb0e2ffe30bcb"), looks := true }, kinds := [], alts := [], laidByText := true, laidKinds := [.data], laidTests := true, laidLooks := .later }
def SaveWritesCardSaid : Prop := Claim7.holds Tryd.pinned (.plain (OpenSpec.ofChange saveWritesSpec)) saveWritesCard

/-- THE TIED CARD OF 'glebelaw.SaveBack'. -/
def saveBackCard : Claim7 := { stood := { row := saveBackRow, standIns := [], harness := (true, "218c60e1d49444acdd94874006c6d75caae19a6744832da68d5eb0e2ffe30bcb"), looks := true }, kinds := [], alts := [], laidByText := true, laidKinds := [.data], laidTests := true, laidLooks := .later }
def SaveBackCardSaid : Prop := Claim7.holds Tryd.pinned (.plain (OpenSpec.ofChange saveBackSpec)) saveBackCard

/-- THE SECOND FORM's CARD OF 'glebelaw.SaveWrites'. -/
def saveWritesUptoCard : Claim7 := { stood := { row := saveWritesUptoRow, standIns := [], harness := (true, "218c60e1d49444acdd94874006c6d75caae19a6744832da68d5eb0e2ffe30bcb"), looks := true }, kinds := [], alts := [], laidByText := true, laidKinds := [.data], laidTests := true, laidLooks := .later }
def SaveWritesUptoCardSaid : Prop := Claim7.holds Tryd.pinned (.plain (OpenSpec.upto saveWritesSpec)) saveWritesUptoCard

/-- THE SECOND FORM's CARD OF 'glebelaw.SaveBack'. -/
def saveBackUptoCard : Claim7 := { stood := { row := saveBackUptoRow, standIns := [], harness := (true, "218c60e1d49444acdd94874006c6d75caae19a6744832da68d5eb0e2ffe30bcb"), looks := true }, kinds := [], alts := [], laidByText := true, laidKinds := [.data], laidTests := true, laidLooks := .later }
def SaveBackUptoCardSaid : Prop := Claim7.holds Tryd.pinned (.plain (OpenSpec.upto saveBackSpec)) saveBackUptoCard
end Rows
end Go.Proofs.YtblihfpigjiahaaDoor
