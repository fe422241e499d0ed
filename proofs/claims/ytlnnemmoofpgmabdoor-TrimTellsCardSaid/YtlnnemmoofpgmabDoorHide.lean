/-
  Facts that are kept from the walk.
-/
import Derived.Test.YtlnnemmoofpgmabDoorMem
namespace Go.Proofs.YtlnnemmoofpgmabDoor
open Go.RowKit
theorem hide {p : Prop} (h : p) : Hid p := h
theorem unhide {p : Prop} (h : Hid p) : p := h
end Go.Proofs.YtlnnemmoofpgmabDoor
