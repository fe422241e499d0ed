/- OpFm -/
import Derived.Test.YtkepbeeioalmbabDoorTM02
import Derived.Deep.RegionWith
set_option maxRecDepth 100000
set_option maxHeartbeats 8000000
namespace Go.Proofs.YtkepbeeioalmbabDoor
open Go.RowKit
theorem checkOpMake_true (i b o n cap : Nat) (r : Int) (Bp Bf : Nat) (w : World) (hc : w.cell? ⟨0, 41, none⟩ = some (.int .i64 4))
    (H : ∀ u, Kept w u → Calls Tryd.prog 50 #[.int .i64 i, .pointer (some ⟨Bp, 0, none⟩)] u fun e u' => e = .returned (.bool true) ∧ Kept u u') (hi : i < n) (hr : w.cell? ⟨b, o + i * 3, none⟩ = some (.int .i64 r)) (hne : (r != 1) = true) :
    Calls Tryd.prog 38 #[.slice (some ⟨b, o, none⟩) n cap, .agg #[.int .i64 13, .int .i64 i], mayV Bp Bf] w fun e w' => e = .returned (.int .i64 1) ∧ Kept w w' := by
  have h : ixB 13 17 = true := rfl
  have HH : Hid (∀ u, Kept w u → Calls Tryd.prog 50 #[.int .i64 i, .pointer (some ⟨Bp, 0, none⟩)] u fun e u' => e = .returned (.bool true) ∧ Kept u u') := H
  clear H
  unfold mayV
  have c0 : ((w.alloc (.cells #[.int .i64 13, .int .i64 i] 38)).alloc (.cells #[.func (.func 46) #[] #[], .func (.func 47) #[] #[], .func (.func 48) #[] #[.pointer (some ⟨Bf, 0, none⟩)], .func (.func 49) #[] #[.pointer (some ⟨Bf, 0, none⟩)], .func (.func 50) #[] #[.pointer (some ⟨Bp, 0, none⟩)]] 63)).cell? ⟨0, 41, none⟩ = some (.int .i64 4) := (((Kept.refl w).alloc _).alloc _).cell hc
  clear hc
  have HR : Hid (w.cell? ⟨b, o + i * 3, none⟩ = some (.int .i64 r)) := hr
  clear hr
  go_enter Tryd.func38, Tryd.ntmps38
  go_wp2_with (go_at_call 35; refine (isIndex_any _ _ _).mono ?_; rintro e w' ⟨rfl, rfl⟩)
  go_region_with (go_at_call 50; refine (HH.out _ ?_).mono ?_; (repeat (first | exact Kept.refl _ | assumption | apply Kept.drew | apply Kept.alloc)); rintro e w' ⟨rfl, hkk⟩)
  all_goals (have q0 := hkk.cell (cell_lays (t := 38) (fr := (0, 0)) (b := w.heap.size) (c := #[.int .i64 13, .int .i64 i]) (by repeat (first | exact lays_new rfl | refine lays_alloc ?_ _ | refine lays_drew ?_)) 0))
  all_goals (have q1 := hkk.cell (cell_lays (t := 38) (fr := (0, 0)) (b := w.heap.size) (c := #[.int .i64 13, .int .i64 i]) (by repeat (first | exact lays_new rfl | refine lays_alloc ?_ _ | refine lays_drew ?_)) 1))
  all_goals (have hr2 := (Kept.trans (by repeat (first | exact Kept.refl w | apply Kept.drew | apply Kept.alloc)) hkk).cell HR.out)
  all_goals go_wp2
  all_goals go_ret
  all_goals refine ⟨rfl, ?_⟩
  all_goals (repeat (first | exact Kept.refl _ | refine Kept.trans ?_ hkk | apply Kept.drew | apply Kept.alloc))
theorem checkOpMake_false (i b o n cap : Nat) (r : Int) (Bp Bf : Nat) (w : World) (hc : w.cell? ⟨0, 41, none⟩ = some (.int .i64 4))
    (H : ∀ u, Kept w u → Calls Tryd.prog 50 #[.int .i64 i, .pointer (some ⟨Bp, 0, none⟩)] u fun e u' => e = .returned (.bool true) ∧ Kept u u') (hi : i < n) (hr : w.cell? ⟨b, o + i * 3, none⟩ = some (.int .i64 r)) (hne : (r != 1) = false) :
    Calls Tryd.prog 38 #[.slice (some ⟨b, o, none⟩) n cap, .agg #[.int .i64 13, .int .i64 i], mayV Bp Bf] w fun e w' => e = .returned (.int .i64 0) ∧ Kept w w' := by
  have h : ixB 13 17 = true := rfl
  have HH : Hid (∀ u, Kept w u → Calls Tryd.prog 50 #[.int .i64 i, .pointer (some ⟨Bp, 0, none⟩)] u fun e u' => e = .returned (.bool true) ∧ Kept u u') := H
  clear H
  unfold mayV
  have c0 : ((w.alloc (.cells #[.int .i64 13, .int .i64 i] 38)).alloc (.cells #[.func (.func 46) #[] #[], .func (.func 47) #[] #[], .func (.func 48) #[] #[.pointer (some ⟨Bf, 0, none⟩)], .func (.func 49) #[] #[.pointer (some ⟨Bf, 0, none⟩)], .func (.func 50) #[] #[.pointer (some ⟨Bp, 0, none⟩)]] 63)).cell? ⟨0, 41, none⟩ = some (.int .i64 4) := (((Kept.refl w).alloc _).alloc _).cell hc
  clear hc
  have HR : Hid (w.cell? ⟨b, o + i * 3, none⟩ = some (.int .i64 r)) := hr
  clear hr
  go_enter Tryd.func38, Tryd.ntmps38
  go_wp2_with (go_at_call 35; refine (isIndex_any _ _ _).mono ?_; rintro e w' ⟨rfl, rfl⟩)
  go_region_with (go_at_call 50; refine (HH.out _ ?_).mono ?_; (repeat (first | exact Kept.refl _ | assumption | apply Kept.drew | apply Kept.alloc)); rintro e w' ⟨rfl, hkk⟩)
  all_goals (have q0 := hkk.cell (cell_lays (t := 38) (fr := (0, 0)) (b := w.heap.size) (c := #[.int .i64 13, .int .i64 i]) (by repeat (first | exact lays_new rfl | refine lays_alloc ?_ _ | refine lays_drew ?_)) 0))
  all_goals (have q1 := hkk.cell (cell_lays (t := 38) (fr := (0, 0)) (b := w.heap.size) (c := #[.int .i64 13, .int .i64 i]) (by repeat (first | exact lays_new rfl | refine lays_alloc ?_ _ | refine lays_drew ?_)) 1))
  all_goals (have hr2 := (Kept.trans (by repeat (first | exact Kept.refl w | apply Kept.drew | apply Kept.alloc)) hkk).cell HR.out)
  all_goals go_wp2
  all_goals go_ret
  all_goals refine ⟨rfl, ?_⟩
  all_goals (repeat (first | exact Kept.refl _ | refine Kept.trans ?_ hkk | apply Kept.drew | apply Kept.alloc))
end Go.Proofs.YtkepbeeioalmbabDoor
