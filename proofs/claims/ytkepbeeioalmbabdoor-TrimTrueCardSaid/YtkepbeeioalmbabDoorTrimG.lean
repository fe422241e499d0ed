/-
  The contracts of the reference's SameFuncs and SameProgs, where both are the same.
-/
import Derived.Test.YtkepbeeioalmbabDoorTrimD
import Derived.Deep.RegionWith
import Derived.Deep.DeepCutAuto
namespace Go.Proofs.YtkepbeeioalmbabDoor
open Go.RowKit

set_option maxHeartbeats 4000000 in
theorem sameFuncs_same (ar lo : Int) (c : List (Int × Int)) (cv1 cv2 : Value) (w : World) (h1 : CodeAt w cv1 c) (h2 : CodeAt w cv2 c) :
    Calls Tryd.prog 20 #[.agg #[.int .i64 ar, .int .i64 lo, cv1], .agg #[.int .i64 ar, .int .i64 lo, cv2]] w fun e w' => e = .returned (.bool true) ∧ Kept w w' := by
  obtain ⟨oa1, cap1, rfl, hl8, i1⟩ := h1
  obtain ⟨oa2, cap2, rfl, _, i2⟩ := h2
  have hn1 : (ar != ar) = false := by simp
  have hn2 : (lo != lo) = false := by simp
  have hn3 : ((c.length : Int) != (c.length : Int)) = false := by simp
  generalize hm : c.length = m at *
  have HI1 := hide i1
  have HI2 := hide i2
  have HM := hide hm
  clear i1 i2 hm
  go_enter Tryd.func20, Tryd.ntmps20
  go_wp2
  have L0 : Hid (((w.alloc (.cells #[.int .i64 ar, .int .i64 lo, .slice oa1 m cap1] 36)).alloc (.cells #[.int .i64 ar, .int .i64 lo, .slice oa2 m cap2] 36)).heap[w.heap.size]? = _) := hide (lays_alloc (lays_new rfl) _)
  have L1 : Hid (((w.alloc (.cells #[.int .i64 ar, .int .i64 lo, .slice oa1 m cap1] 36)).alloc (.cells #[.int .i64 ar, .int .i64 lo, .slice oa2 m cap2] 36)).heap[w.heap.size + 1]? = _) := hide (lays_new (by simp))
  generalize hW : (w.alloc (.cells #[.int .i64 ar, .int .i64 lo, .slice oa1 m cap1] 36)).alloc (.cells #[.int .i64 ar, .int .i64 lo, .slice oa2 m cap2] 36) = W at *
  have HKW : Hid (Kept w W) := by rw [← hW]; exact ((Kept.refl w).alloc _).alloc _
  clear hW
  go_loopw [5] (fun s wr => ∃ k : Nat, k ≤ m ∧ s = .int .i64 k ∧ Hid (Kept W wr)) (fun s _ => m - (intOf s).toNat)
  case atStart => exact ⟨0, Nat.zero_le _, rfl, Kept.refl _⟩
  case round =>
    obtain ⟨k, hkm, rfl, HKr⟩ := hrel
    have b0 := cell_lays (lays_kept (unhide HKr) (unhide L0)) 2
    have b1 := cell_lays (lays_kept (unhide HKr) (unhide L1)) 2
    simp only [List.getElem?_toArray, List.getElem?_cons_zero, List.getElem?_cons_succ] at b0 b1
    by_cases hlt : k < m
    · obtain ⟨⟨kd, a⟩, hx⟩ : ∃ x, c[k]? = some x := ⟨_, List.getElem?_eq_getElem (by rw [unhide HM]; exact hlt)⟩
      obtain ⟨p1, o1, rfl, x0, x1⟩ := (unhide HI1) k _ hx
      obtain ⟨p2, o2, rfl, y0, y1⟩ := (unhide HI2) k _ hx
      have hk := (unhide HKW).trans (unhide HKr)
      have x0' := hk.cell x0
      have x1' := hk.cell x1
      have y0' := hk.cell y0
      have y1' := hk.cell y1
      simp only at x0' x1' y0' y1'
      clear hk x0 x1 y0 y1 hx
      go_wp2
      go_quiet (fail)
      go_wp2
      go_roundw
      case rel => exact ⟨k + 1, by omega, by go_num, (unhide HKr).drewN _⟩
      case measure => simp [intOf]; omega
    · go_wp2
      go_ret
      exact ⟨rfl, (unhide HKW).trans (unhide HKr)⟩

end Go.Proofs.YtkepbeeioalmbabDoor
