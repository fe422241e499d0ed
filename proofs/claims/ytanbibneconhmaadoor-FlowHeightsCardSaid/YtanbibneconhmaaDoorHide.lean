/-
  Facts that are kept from the walk.
-/
import Derived.Test.YtanbibneconhmaaDoorMem
namespace Go.Proofs.YtanbibneconhmaaDoor
open Go.RowKit
theorem hide {p : Prop} (h : p) : Hid p := h
theorem unhide {p : Prop} (h : Hid p) : p := h
end Go.Proofs.YtanbibneconhmaaDoor
