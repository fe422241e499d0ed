/-
  The reference's within.
-/
import Derived.Test.YtkepbeeioalmbaaDoorOpA
namespace Go.Proofs.YtkepbeeioalmbaaDoor
open Go.RowKit

set_option maxHeartbeats 400000 in
theorem within_any (i l n : Int) (w : World) :
    Calls Tryd.prog 21 #[.int .i64 i, .int .i64 l, .int .i64 n] w fun e w' => e = .returned (.bool (inB i l n)) ∧ w = w' := by
  by_cases h1 : l ≤ i
  · by_cases h2 : i ≤ n
    · rw [inB_true h1 h2]
      go_enter Tryd.func21, Tryd.ntmps21
      go_wp2
      go_ret
      exact ⟨rfl, rfl⟩
    · rw [inB_false (by omega)]
      go_enter Tryd.func21, Tryd.ntmps21
      go_wp2
      go_ret
      exact ⟨rfl, rfl⟩
  · rw [inB_false (by omega)]
    go_enter Tryd.func21, Tryd.ntmps21
    go_wp2
    go_ret
    exact ⟨rfl, rfl⟩
end Go.Proofs.YtkepbeeioalmbaaDoor
