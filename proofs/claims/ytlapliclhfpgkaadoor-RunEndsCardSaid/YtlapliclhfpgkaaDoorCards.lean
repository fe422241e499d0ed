/-
  DERIVED. GIVEN WITH THE SEED: THE CARDS: each row of YtlapliclhfpgkaaDoorRows.lean that lists a variable, with what it lists TIED to the program's text (the seventh form; the later family's looks); each row that meets fmt, with fmt's text TOLD by the authors' own Lean function (tested against real Go, not proved from fmt's source: count such statements apart). THE CARD IS WHAT COUNTS. Prove the row's statement (the work); the ties are given (YtlapliclhfpgkaaDoorTie.lean); close each card by the builder's one call (the guide's Derived/Test/ToyasCard.lean, 'card_holds'). Laid BY PROGRAM, IN A SANDBOX (cutbox-door.mjs). By AI agents, Wed Nov 11 2026. No macro, syntax, notation, axiom, sorry.
-/
import Derived.Test.YtlapliclhfpgkaaDoorRows
import GoSem.ClaimSeven
namespace Go.Proofs.YtlapliclhfpgkaaDoor
namespace Rows

/-- THE TIED CARD OF 'glebelaw.TrimSame'. -/
def trimSameCard : Claim7 := { stood := { row := trimSameRow, standIns := [], harness := (true, "f111971ae811b4a89cf64d63c284d55fcb84d628f8c6a33db30e60a1ae1f8fa9"), looks := true }, kinds := [], alts := [], laidByText := true, laidKinds := [.data], laidTests := true, laidLooks := .later }
def TrimSameCardSaid : Prop := Claim7.holds Tryd.pinned (.plain (OpenSpec.ofChange trimSameSpec)) trimSameCard

/-- THE TIED CARD OF 'glebelaw.RunSplit'. -/
def runSplitCard : Claim7 := { stood := { row := runSplitRow, standIns := [], harness := (true, "f111971ae811b4a89cf64d63c284d55fcb84d628f8c6a33db30e60a1ae1f8fa9"), looks := true }, kinds := [], alts := [], laidByText := true, laidKinds := [.data], laidTests := true, laidLooks := .later }
def RunSplitCardSaid : Prop := Claim7.holds Tryd.pinned (.plain (OpenSpec.ofChange runSplitSpec)) runSplitCard

/-- THE TIED CARD OF 'glebelaw.RunFar'. -/
def runFarCard : Claim7 := { stood := { row := runFarRow, standIns := [], harness := (true, "f111971ae811b4a89cf64d63c284d55fcb84d628f8c6a33db30e60a1ae1f8fa9"), looks := true }, kinds := [], alts := [], laidByText := true, laidKinds := [.data], laidTests := true, laidLooks := .later }
def RunFarCardSaid : Prop := Claim7.holds Tryd.pinned (.plain (OpenSpec.ofChange runFarSpec)) runFarCard

/-- THE TIED CARD OF 'glebelaw.RunEnds'. -/
def runEndsCard : Claim7 := { stood := { row := runEndsRow, standIns := [], harness := (true, "f111971ae811b4a89cf64d63c284d55fcb84d628f8c6a33db30e60a1ae1f8fa9"), looks := true }, kinds := [], alts := [], laidByText := true, laidKinds := [.data], laidTests := true, laidLooks := .later }
def RunEndsCardSaid : Prop := Claim7.holds Tryd.pinned (.plain (OpenSpec.ofChange runEndsSpec)) runEndsCard

/-- THE TIED CARD OF 'glebelaw.RunBegin'. -/
def runBeginCard : Claim7 := { stood := { row := runBeginRow, standIns := [], harness := (true, "f111971ae811b4a89cf64d63c284d55fcb84d628f8c6a33db30e60a1ae1f8fa9"), looks := true }, kinds := [], alts := [], laidByText := true, laidKinds := [.data], laidTests := true, laidLooks := .later }
def RunBeginCardSaid : Prop := Claim7.holds Tryd.pinned (.plain (OpenSpec.ofChange runBeginSpec)) runBeginCard

/-- THE SECOND FORM's CARD OF 'glebelaw.TrimSame'. -/
def trimSameUptoCard : Claim7 := { stood := { row := trimSameUptoRow, standIns := [], harness := (true, "f111971ae811b4a89cf64d63c284d55fcb84d628f8c6a33db30e60a1ae1f8fa9"), looks := true }, kinds := [], alts := [], laidByText := true, laidKinds := [.data], laidTests := true, laidLooks := .later }
def TrimSameUptoCardSaid : Prop := Claim7.holds Tryd.pinned (.plain (OpenSpec.upto trimSameSpec)) trimSameUptoCard

/-- THE SECOND FORM's CARD OF 'glebelaw.RunSplit'. -/
def runSplitUptoCard : Claim7 := { stood := { row := runSplitUptoRow, standIns := [], harness := (true, "f111971ae811b4a89cf64d63c284d55fcb84d628f8c6a33db30e60a1ae1f8fa9"), looks := true }, kinds := [], alts := [], laidByText := true, laidKinds := [.data], laidTests := true, laidLooks := .later }
def RunSplitUptoCardSaid : Prop := Claim7.holds Tryd.pinned (.plain (OpenSpec.upto runSplitSpec)) runSplitUptoCard

/-- THE SECOND FORM's CARD OF 'glebelaw.RunFar'. -/
def runFarUptoCard : Claim7 := { stood := { row := runFarUptoRow, standIns := [], harness := (true, "f111971ae811b4a89cf64d63c284d55fcb84d628f8c6a33db30e60a1ae1f8fa9"), looks := true }, kinds := [], alts := [], laidByText := true, laidKinds := [.data], laidTests := true, laidLooks := .later }
def RunFarUptoCardSaid : Prop := Claim7.holds Tryd.pinned (.plain (OpenSpec.upto runFarSpec)) runFarUptoCard

/-- THE SECOND FORM's CARD OF 'glebelaw.RunEnds'. -/
def runEndsUptoCard : Claim7 := { stood := { row := runEndsUptoRow, standIns := [], harness := (true, "f111971ae811b4a89cf64d63c284d55fcb84d628f8c6a33db30e60a1ae1f8fa9"), looks := true }, kinds := [], alts := [], laidByText := true, laidKinds := [.data], laidTests := true, laidLooks := .later }
def RunEndsUptoCardSaid : Prop := Claim7.holds Tryd.pinned (.plain (OpenSpec.upto runEndsSpec)) runEndsUptoCard

/-- THE SECOND FORM's CARD OF 'glebelaw.RunBegin'. -/
def runBeginUptoCard : Claim7 := { stood := { row := runBeginUptoRow, standIns := [], harness := (true, "f111971ae811b4a89cf64d63c284d55fcb84d628f8c6a33db30e60a1ae1f8fa9"), looks := true }, kinds := [], alts := [], laidByText := true, laidKinds := [.data], laidTests := true, laidLooks := .later }
def RunBeginUptoCardSaid : Prop := Claim7.holds Tryd.pinned (.plain (OpenSpec.upto runBeginSpec)) runBeginUptoCard
end Rows
end Go.Proofs.YtlapliclhfpgkaaDoor
