/-
  A slice of nodes without its first.
-/
import Derived.Test.YtohlefnljgkdcafChecked
import Derived.Test.YtohlefnljgkdcafExprM
namespace Go.Proofs.Ytohlefnljgkdcaf
open Go.RowKit

theorem cut_first (b o1 m cap : Nat) (h : m + 1 ≤ cap) : ∃ oa, (m ≠ 0 → oa = some ⟨b, o1 + 2, none⟩) ∧ ∀ u, (Instr.sliceAt 22 (.slice (some ⟨b, o1, none⟩) (m + 1) cap) (some (.int .i64 1)) none none).run Try.prog u = .ok (.slice oa m (cap - 1)) u := by
  refine ⟨if cap = 1 then some ⟨b, o1, none⟩ else some ⟨b, o1 + 2, none⟩, fun hm => by rw [if_neg (by omega)], fun u => ?_⟩
  rw [run_sliceAt_slice u _ _ _ _ _ (by kernel_rfl), run_slice_l u _ _ _ _ (by kernel_rfl) _ _ (by omega) (by omega)]
  have hs : (sizeOf (Try.prog.elem 22)).run Try.prog u = .ok 2 u := by kernel_rfl
  rw [hs]
  simp [Result.andThen, sliced, Addr.add]

end Go.Proofs.Ytohlefnljgkdcaf
