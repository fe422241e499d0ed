/-
  The contracts of the statements' own o and count: the program with which they begin lies in new memory.
-/
import Derived.Test.YtkepbeeioalmbabDoorChecked
import Derived.Test.YtkepbeeioalmbabDoorBlocks
namespace Go.Proofs.YtkepbeeioalmbabDoor
open Go.RowKit

set_option maxHeartbeats 400000 in
theorem o_any (k a : Int) (w : World) :
    Calls Tryd.prog 33 #[.int .i64 k, .int .i64 a] w fun e w' => e = .returned (.agg #[.int .i64 k, .int .i64 a]) ∧ w' = w.alloc (.cells #[.int .i64 k, .int .i64 a] 38) := by
  go_enter Tryd.func33, Tryd.ntmps33
  go_wp2
  exact bodyPost_ret (v := .agg #[.int .i64 k, .int .i64 a]) (by simp [results, Tryd.results33, go_sem]) rfl ⟨rfl, rfl⟩

set_option maxHeartbeats 4000000 in
theorem count_any (w : World) :
    Calls Tryd.prog 26 #[] w fun e w' => ∃ v, e = .returned v ∧ CountAt w.heap.size w' v ∧ Kept w w' := by
  go_enter Tryd.func26, Tryd.ntmps26
  go_wp2_with (go_at_call 33; refine (o_any _ _ _).mono ?_; rintro e w' ⟨rfl, rfl⟩)
  go_ret
  refine ⟨_, rfl, ⟨w.heap.size + 14, w.heap.size + 27, w.heap.size + 32, w.heap.size + 33, by omega, by omega, by omega, by omega, rfl, ?_, ?_, ?_, ?_⟩, ?_⟩
  · repeat (first | exact lays_new (by simp) | refine lays_alloc ?_ _)
  · repeat (first | exact lays_new (by simp) | refine lays_alloc ?_ _)
  · repeat (first | exact lays_new (by simp) | refine lays_alloc ?_ _)
  · repeat (first | exact lays_new (by simp) | refine lays_alloc ?_ _)
  · repeat (refine Kept.alloc ?_ _)
    exact Kept.refl _
end Go.Proofs.YtkepbeeioalmbabDoor
