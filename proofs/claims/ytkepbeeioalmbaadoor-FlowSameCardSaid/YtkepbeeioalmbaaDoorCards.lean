/-
  DERIVED. GIVEN WITH THE SEED: THE CARDS: each row of YtkepbeeioalmbaaDoorRows.lean that lists a variable, with what it lists TIED to the program's text (the seventh form; the later family's looks); each row that meets fmt, with fmt's text TOLD by the authors' own Lean function (tested against real Go, not proved from fmt's source: count such statements apart). THE CARD IS WHAT COUNTS. Prove the row's statement (the work); the ties are given (YtkepbeeioalmbaaDoorTie.lean); close each card by the builder's one call (the guide's Derived/Test/ToyasCard.lean, 'card_holds'). Laid BY PROGRAM, IN A SANDBOX (cutbox-door.mjs). By AI agents, Wed Nov 11 2026. No macro, syntax, notation, axiom, sorry.
-/
import Derived.Test.YtkepbeeioalmbaaDoorRows
import GoSem.ClaimSeven
namespace Go.Proofs.YtkepbeeioalmbaaDoor
namespace Rows

/-- THE TIED CARD OF 'glebelaw.OpTells'. -/
def opTellsCard : Claim7 := { stood := { row := opTellsRow, standIns := [], harness := (true, "1a0a03ace039af9c5581dd59a8b2da7382995f00a2750faaa312cee2d337b5ff"), looks := false }, kinds := [], alts := [], laidByText := true, laidKinds := [.data], laidTests := true, laidLooks := .later }
def OpTellsCardSaid : Prop := Claim7.holds Tryd.pinned (.plain (OpenSpec.ofChange opTellsSpec)) opTellsCard

/-- THE TIED CARD OF 'glebelaw.OpChecks'. -/
def opChecksCard : Claim7 := { stood := { row := opChecksRow, standIns := [], harness := (true, "1a0a03ace039af9c5581dd59a8b2da7382995f00a2750faaa312cee2d337b5ff"), looks := false }, kinds := [], alts := [], laidByText := true, laidKinds := [.data], laidTests := true, laidLooks := .later }
def OpChecksCardSaid : Prop := Claim7.holds Tryd.pinned (.plain (OpenSpec.ofChange opChecksSpec)) opChecksCard

/-- THE TIED CARD OF 'glebelaw.OpTrue'. -/
def opTrueCard : Claim7 := { stood := { row := opTrueRow, standIns := [], harness := (true, "1a0a03ace039af9c5581dd59a8b2da7382995f00a2750faaa312cee2d337b5ff"), looks := false }, kinds := [], alts := [], laidByText := true, laidKinds := [.data], laidTests := true, laidLooks := .later }
def OpTrueCardSaid : Prop := Claim7.holds Tryd.pinned (.plain (OpenSpec.ofChange opTrueSpec)) opTrueCard

/-- THE TIED CARD OF 'glebelaw.FlowHeights'. -/
def flowHeightsCard : Claim7 := { stood := { row := flowHeightsRow, standIns := [], harness := (true, "1a0a03ace039af9c5581dd59a8b2da7382995f00a2750faaa312cee2d337b5ff"), looks := false }, kinds := [], alts := [], laidByText := true, laidKinds := [.data], laidTests := true, laidLooks := .later }
def FlowHeightsCardSaid : Prop := Claim7.holds Tryd.pinned (.plain (OpenSpec.ofChange flowHeightsSpec)) flowHeightsCard

/-- THE TIED CARD OF 'glebelaw.FlowTrue'. -/
def flowTrueCard : Claim7 := { stood := { row := flowTrueRow, standIns := [], harness := (true, "1a0a03ace039af9c5581dd59a8b2da7382995f00a2750faaa312cee2d337b5ff"), looks := false }, kinds := [], alts := [], laidByText := true, laidKinds := [.data], laidTests := true, laidLooks := .later }
def FlowTrueCardSaid : Prop := Claim7.holds Tryd.pinned (.plain (OpenSpec.ofChange flowTrueSpec)) flowTrueCard

/-- THE TIED CARD OF 'glebelaw.FlowSame'. -/
def flowSameCard : Claim7 := { stood := { row := flowSameRow, standIns := [], harness := (true, "1a0a03ace039af9c5581dd59a8b2da7382995f00a2750faaa312cee2d337b5ff"), looks := false }, kinds := [], alts := [], laidByText := true, laidKinds := [.data], laidTests := true, laidLooks := .later }
def FlowSameCardSaid : Prop := Claim7.holds Tryd.pinned (.plain (OpenSpec.ofChange flowSameSpec)) flowSameCard

/-- THE SECOND FORM's CARD OF 'glebelaw.OpTells'. -/
def opTellsUptoCard : Claim7 := { stood := { row := opTellsUptoRow, standIns := [], harness := (true, "1a0a03ace039af9c5581dd59a8b2da7382995f00a2750faaa312cee2d337b5ff"), looks := false }, kinds := [], alts := [], laidByText := true, laidKinds := [.data], laidTests := true, laidLooks := .later }
def OpTellsUptoCardSaid : Prop := Claim7.holds Tryd.pinned (.plain (OpenSpec.upto opTellsSpec)) opTellsUptoCard

/-- THE SECOND FORM's CARD OF 'glebelaw.OpChecks'. -/
def opChecksUptoCard : Claim7 := { stood := { row := opChecksUptoRow, standIns := [], harness := (true, "1a0a03ace039af9c5581dd59a8b2da7382995f00a2750faaa312cee2d337b5ff"), looks := false }, kinds := [], alts := [], laidByText := true, laidKinds := [.data], laidTests := true, laidLooks := .later }
def OpChecksUptoCardSaid : Prop := Claim7.holds Tryd.pinned (.plain (OpenSpec.upto opChecksSpec)) opChecksUptoCard

/-- THE SECOND FORM's CARD OF 'glebelaw.OpTrue'. -/
def opTrueUptoCard : Claim7 := { stood := { row := opTrueUptoRow, standIns := [], harness := (true, "1a0a03ace039af9c5581dd59a8b2da7382995f00a2750faaa312cee2d337b5ff"), looks := false }, kinds := [], alts := [], laidByText := true, laidKinds := [.data], laidTests := true, laidLooks := .later }
def OpTrueUptoCardSaid : Prop := Claim7.holds Tryd.pinned (.plain (OpenSpec.upto opTrueSpec)) opTrueUptoCard

/-- THE SECOND FORM's CARD OF 'glebelaw.FlowHeights'. -/
def flowHeightsUptoCard : Claim7 := { stood := { row := flowHeightsUptoRow, standIns := [], harness := (true, "1a0a03ace039af9c5581dd59a8b2da7382995f00a2750faaa312cee2d337b5ff"), looks := false }, kinds := [], alts := [], laidByText := true, laidKinds := [.data], laidTests := true, laidLooks := .later }
def FlowHeightsUptoCardSaid : Prop := Claim7.holds Tryd.pinned (.plain (OpenSpec.upto flowHeightsSpec)) flowHeightsUptoCard

/-- THE SECOND FORM's CARD OF 'glebelaw.FlowTrue'. -/
def flowTrueUptoCard : Claim7 := { stood := { row := flowTrueUptoRow, standIns := [], harness := (true, "1a0a03ace039af9c5581dd59a8b2da7382995f00a2750faaa312cee2d337b5ff"), looks := false }, kinds := [], alts := [], laidByText := true, laidKinds := [.data], laidTests := true, laidLooks := .later }
def FlowTrueUptoCardSaid : Prop := Claim7.holds Tryd.pinned (.plain (OpenSpec.upto flowTrueSpec)) flowTrueUptoCard

/-- THE SECOND FORM's CARD OF 'glebelaw.FlowSame'. -/
def flowSameUptoCard : Claim7 := { stood := { row := flowSameUptoRow, standIns := [], harness := (true, "1a0a03ace039af9c5581dd59a8b2da7382995f00a2750faaa312cee2d337b5ff"), looks := false }, kinds := [], alts := [], laidByText := true, laidKinds := [.data], laidTests := true, laidLooks := .later }
def FlowSameUptoCardSaid : Prop := Claim7.holds Tryd.pinned (.plain (OpenSpec.upto flowSameSpec)) flowSameUptoCard
end Rows
end Go.Proofs.YtkepbeeioalmbaaDoor
