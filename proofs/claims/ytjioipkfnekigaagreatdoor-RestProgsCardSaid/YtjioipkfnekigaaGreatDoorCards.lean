/-
  DERIVED. GIVEN WITH THE SEED: THE CARDS: each row of YtjioipkfnekigaaGreatDoorRows.lean that lists a variable, with what it lists TIED to the program's text (the seventh form; the later family's looks); each row that meets fmt, with fmt's text TOLD by the authors' own Lean function (tested against real Go, not proved from fmt's source: count such statements apart). THE CARD IS WHAT COUNTS. Prove the row's statement (the work); the ties are given (YtjioipkfnekigaaGreatDoorTie.lean); close each card by the builder's one call (the guide's Derived/Test/ToyasCard.lean, 'card_holds'). Laid BY PROGRAM, IN A SANDBOX (cutbox-door.mjs). By AI agents, Wed Nov 11 2026. No macro, syntax, notation, axiom, sorry.
-/
import Derived.Test.YtjioipkfnekigaaGreatDoorRows
import GoSem.ClaimSeven
namespace Go.Proofs.YtjioipkfnekigaaGreatDoor
namespace Rows

/-- THE TIED CARD OF 'glebelaw.TextShows'. -/
def textShowsCard : Claim7 := { stood := { row := textShowsRow, standIns := [], harness := (true, "48370e84cd23f40cd79a6be4086e065af20882e4ce700eba90e8772982b2d717"), looks := true }, kinds := [], alts := [], laidByText := true, laidKinds := [.data, .data, .data, .data, .data, .sentinel, .sentinel, .data, .pinned], laidTests := true, laidLooks := .later }
def TextShowsCardSaid : Prop := Claim7.holds Tryz.pinned (.plain (OpenSpec.ofChange textShowsSpec)) textShowsCard

/-- THE TIED CARD OF 'glebelaw.RestProgs'. -/
def restProgsCard : Claim7 := { stood := { row := restProgsRow, standIns := [], harness := (true, "48370e84cd23f40cd79a6be4086e065af20882e4ce700eba90e8772982b2d717"), looks := true }, kinds := [], alts := [], laidByText := true, laidKinds := [.data, .data, .data, .data, .data, .data, .sentinel, .sentinel, .data, .pinned], laidTests := true, laidLooks := .later }
def RestProgsCardSaid : Prop := Claim7.holds Tryz.pinned (.plain (OpenSpec.ofChange restProgsSpec)) restProgsCard

/-- THE SECOND FORM's CARD OF 'glebelaw.TextShows'. -/
def textShowsUptoCard : Claim7 := { stood := { row := textShowsUptoRow, standIns := [], harness := (true, "48370e84cd23f40cd79a6be4086e065af20882e4ce700eba90e8772982b2d717"), looks := true }, kinds := [], alts := [], laidByText := true, laidKinds := [.data, .data, .data, .data, .data, .sentinel, .sentinel, .data, .pinned], laidTests := true, laidLooks := .later }
def TextShowsUptoCardSaid : Prop := Claim7.holds Tryz.pinned (.plain (OpenSpec.upto textShowsSpec)) textShowsUptoCard

/-- THE SECOND FORM's CARD OF 'glebelaw.RestProgs'. -/
def restProgsUptoCard : Claim7 := { stood := { row := restProgsUptoRow, standIns := [], harness := (true, "48370e84cd23f40cd79a6be4086e065af20882e4ce700eba90e8772982b2d717"), looks := true }, kinds := [], alts := [], laidByText := true, laidKinds := [.data, .data, .data, .data, .data, .data, .sentinel, .sentinel, .data, .pinned], laidTests := true, laidLooks := .later }
def RestProgsUptoCardSaid : Prop := Claim7.holds Tryz.pinned (.plain (OpenSpec.upto restProgsSpec)) restProgsUptoCard
end Rows
end Go.Proofs.YtjioipkfnekigaaGreatDoor
