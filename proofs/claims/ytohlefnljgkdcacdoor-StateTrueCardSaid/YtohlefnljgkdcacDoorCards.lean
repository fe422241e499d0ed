/-
  DERIVED. GIVEN WITH THE SEED: THE CARDS: each row of YtohlefnljgkdcacDoorRows.lean that lists a variable, with what it lists TIED to the program's text (the seventh form; the later family's looks); each row that meets fmt, with fmt's text TOLD by the authors' own Lean function (tested against real Go, not proved from fmt's source: count such statements apart). THE CARD IS WHAT COUNTS. Prove the row's statement (the work); the ties are given (YtohlefnljgkdcacDoorTie.lean); close each card by the builder's one call (the guide's Derived/Test/ToyasCard.lean, 'card_holds'). Laid BY PROGRAM, IN A SANDBOX (cutbox-door.mjs). By AI agents, Wed Nov 11 2026. No macro, syntax, notation, axiom, sorry.
-/
import Derived.Test.YtohlefnljgkdcacDoorRows
import GoSem.ClaimSeven
namespace Go.Proofs.YtohlefnljgkdcacDoor
namespace Rows

/-- THE TIED CARD OF 'glebelaw.StateTrue'. -/
def stateTrueCard : Claim7 := { stood := { row := stateTrueRow, standIns := [], harness := (true, "76fc9a20b5b46abf320a1456da34eaf9e278fe36c10026219b29c8b2ace336e2"), looks := true }, kinds := [], alts := [], laidByText := true, laidKinds := [.data], laidTests := true, laidLooks := .later }
def StateTrueCardSaid : Prop := Claim7.holds Tryd.pinned (.plain (OpenSpec.ofChange stateTrueSpec)) stateTrueCard

/-- THE TIED CARD OF 'glebelaw.ChainTells'. -/
def chainTellsCard : Claim7 := { stood := { row := chainTellsRow, standIns := [], harness := (true, "76fc9a20b5b46abf320a1456da34eaf9e278fe36c10026219b29c8b2ace336e2"), looks := true }, kinds := [], alts := [], laidByText := true, laidKinds := [.data], laidTests := true, laidLooks := .later }
def ChainTellsCardSaid : Prop := Claim7.holds Tryd.pinned (.plain (OpenSpec.ofChange chainTellsSpec)) chainTellsCard

/-- THE TIED CARD OF 'glebelaw.ChainTrue'. -/
def chainTrueCard : Claim7 := { stood := { row := chainTrueRow, standIns := [], harness := (true, "76fc9a20b5b46abf320a1456da34eaf9e278fe36c10026219b29c8b2ace336e2"), looks := true }, kinds := [], alts := [], laidByText := true, laidKinds := [.data], laidTests := true, laidLooks := .later }
def ChainTrueCardSaid : Prop := Claim7.holds Tryd.pinned (.plain (OpenSpec.ofChange chainTrueSpec)) chainTrueCard

/-- THE SECOND FORM's CARD OF 'glebelaw.StateTrue'. -/
def stateTrueUptoCard : Claim7 := { stood := { row := stateTrueUptoRow, standIns := [], harness := (true, "76fc9a20b5b46abf320a1456da34eaf9e278fe36c10026219b29c8b2ace336e2"), looks := true }, kinds := [], alts := [], laidByText := true, laidKinds := [.data], laidTests := true, laidLooks := .later }
def StateTrueUptoCardSaid : Prop := Claim7.holds Tryd.pinned (.plain (OpenSpec.upto stateTrueSpec)) stateTrueUptoCard

/-- THE SECOND FORM's CARD OF 'glebelaw.ChainTells'. -/
def chainTellsUptoCard : Claim7 := { stood := { row := chainTellsUptoRow, standIns := [], harness := (true, "76fc9a20b5b46abf320a1456da34eaf9e278fe36c10026219b29c8b2ace336e2"), looks := true }, kinds := [], alts := [], laidByText := true, laidKinds := [.data], laidTests := true, laidLooks := .later }
def ChainTellsUptoCardSaid : Prop := Claim7.holds Tryd.pinned (.plain (OpenSpec.upto chainTellsSpec)) chainTellsUptoCard

/-- THE SECOND FORM's CARD OF 'glebelaw.ChainTrue'. -/
def chainTrueUptoCard : Claim7 := { stood := { row := chainTrueUptoRow, standIns := [], harness := (true, "76fc9a20b5b46abf320a1456da34eaf9e278fe36c10026219b29c8b2ace336e2"), looks := true }, kinds := [], alts := [], laidByText := true, laidKinds := [.data], laidTests := true, laidLooks := .later }
def ChainTrueUptoCardSaid : Prop := Claim7.holds Tryd.pinned (.plain (OpenSpec.upto chainTrueSpec)) chainTrueUptoCard
end Rows
end Go.Proofs.YtohlefnljgkdcacDoor
