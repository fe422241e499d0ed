/-
  Facts that are kept from the walk.
-/
import Derived.Test.YtkepbeeioalmbaaDoorMem
namespace Go.Proofs.YtkepbeeioalmbaaDoor
open Go.RowKit
end Go.Proofs.YtkepbeeioalmbaaDoor
