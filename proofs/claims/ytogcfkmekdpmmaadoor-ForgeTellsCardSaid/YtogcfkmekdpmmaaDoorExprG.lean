/-
  A slice of nodes without its first.
-/
import Derived.Test.YtogcfkmekdpmmaaDoorChecked
import Derived.Test.YtogcfkmekdpmmaaDoorExprM
set_option maxRecDepth 100000
set_option maxHeartbeats 8000000
namespace Go.Proofs.YtogcfkmekdpmmaaDoor
open Go.RowKit

theorem cut_first (b o1 m cap:Nat) (h:m + 1≤cap):∃ oa,(m≠0→oa=some ⟨b,o1 + 2,none⟩)∧∀ u,(Instr.sliceAt 30 (.slice (some ⟨b,o1,none⟩) (m + 1) cap) (some (.int .i64 1)) none none).run Tryd.prog u=.ok (.slice oa m (cap - 1)) u:=by
  refine ⟨if cap=1 then some ⟨b,o1,none⟩ else some ⟨b,o1 + 2,none⟩,fun hm=>by rw [if_neg (by omega)],fun u=>?_⟩
  rw [run_sliceAt_slice u _ _ _ _ _ (by kernel_rfl),run_slice_l u _ _ _ _ (by kernel_rfl) _ _ (by omega) (by omega)]
  have hs:(sizeOf (Tryd.prog.elem 30)).run Tryd.prog u=.ok 2 u:=by kernel_rfl
  rw [hs]
  simp [Result.andThen,sliced,Addr.add]

end Go.Proofs.YtogcfkmekdpmmaaDoor
