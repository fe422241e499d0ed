/-
  Facts that are kept from the walk.
-/
import Derived.Test.YtkepbeeioalmbabDoorMem
namespace Go.Proofs.YtkepbeeioalmbabDoor
open Go.RowKit
end Go.Proofs.YtkepbeeioalmbabDoor
