/- TrimGp -/
import Derived.Test.YtkepbeeioalmbabDoorTM16
import Derived.Deep.RegionWith
import Derived.Deep.DeepCutAuto
set_option maxRecDepth 100000
set_option maxHeartbeats 8000000
namespace Go.Proofs.YtkepbeeioalmbabDoor
open Go.RowKit
theorem sameProgs_same (p : List Fn) (v1 v2 : Value) (w : World) (h1 : ProgAt w v1 p) (h2 : ProgAt w v2 p) :
    Calls Tryd.prog 21 #[v1, v2] w fun e w' => e = .returned (.bool true) ∧ Kept w w' := by
  obtain ⟨oa1, cap1, rfl, hl8, i1⟩ := h1
  obtain ⟨oa2, cap2, rfl, _, i2⟩ := h2
  have hn3 : ((p.length : Int) != (p.length : Int)) = false := by simp
  generalize hm : p.length = m at *
  have HI1 := hide i1
  have HI2 := hide i2
  have HM := hide hm
  clear i1 i2 hm
  go_enter Tryd.func21, Tryd.ntmps21
  go_wp2
  go_loopw [5] (fun s wr => ∃ k : Nat, k ≤ m ∧ s = .int .i64 k ∧ Hid (Kept w wr)) (fun s _ => m - (intOf s).toNat)
  case atStart => exact ⟨0, Nat.zero_le _, rfl, Kept.refl _⟩
  case round =>
    obtain ⟨k, hkm, rfl, HKr⟩ := hrel
    by_cases hlt : k < m
    · obtain ⟨f, hx⟩ : ∃ f, p[k]? = some f := ⟨_, List.getElem?_eq_getElem (by rw [unhide HM]; exact hlt)⟩
      obtain ⟨p1, o1, cv1, rfl, x0, x1, x2, hc1⟩ := (unhide HI1) k _ hx
      obtain ⟨p2, o2, cv2, rfl, y0, y1, y2, hc2⟩ := (unhide HI2) k _ hx
      have hk := unhide HKr
      have x0' := hk.cell x0
      have x1' := hk.cell x1
      have x2' := hk.cell x2
      have y0' := hk.cell y0
      have y1' := hk.cell y1
      have y2' := hk.cell y2
      obtain ⟨oc1, cc1, rfl, _, _⟩ := id hc1
      obtain ⟨oc2, cc2, rfl, _, _⟩ := id hc2
      have HSF : Hid (∀ u, Kept wr u → Calls Tryd.prog 20 #[.agg #[.int .i64 f.args, .int .i64 f.locals, .slice oc1 f.code.length cc1], .agg #[.int .i64 f.args, .int .i64 f.locals, .slice oc2 f.code.length cc2]] u fun e w' => e = .returned (.bool true) ∧ Kept u w') :=
        hide (fun u hu => sameFuncs_same f.args f.locals f.code _ _ u (hc1.kept (hk.trans hu)) (hc2.kept (hk.trans hu)))
      clear hk x0 x1 x2 y0 y1 y2 hx hc1 hc2
      go_wp2_with fail
      go_cut [26] from 11 to 26 (fun s26 wx => s26 = .bool false ∧ Hid (Kept wr wx))
      case first =>
        go_region_with (go_at_call 20; refine ((unhide HSF) _ ?_).mono ?_; (repeat (first | exact Kept.refl _ | refine Kept.drew ?_ | refine Kept.alloc ?_ _)); rintro e w' ⟨rfl, hkk⟩)
        all_goals go_wp2_with fail
        all_goals go_meet
        all_goals exact ⟨rfl, hide (by first | exact hkk | exact (Kept.refl wr).drew.trans hkk)⟩
      case rest =>
        obtain ⟨rfl, HKx⟩ := hcut
        go_wp2
        go_roundw
        case rel => exact ⟨k + 1, by omega, by go_num, (unhide HKr).trans (unhide HKx)⟩
        case measure => simp [intOf]; omega
    · go_wp2
      go_ret
      exact ⟨rfl, unhide HKr⟩
end Go.Proofs.YtkepbeeioalmbabDoor
