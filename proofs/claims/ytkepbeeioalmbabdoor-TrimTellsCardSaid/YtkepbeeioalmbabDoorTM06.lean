/- OpF3 -/
import Derived.Test.YtkepbeeioalmbabDoorTM02
import Derived.Deep.RegionWith
set_option maxRecDepth 100000
set_option maxHeartbeats 8000000
namespace Go.Proofs.YtkepbeeioalmbabDoor
open Go.RowKit
theorem checkOp3_no (k : Nat) (a : Int) (v : Value) (hb : k < 17) (Bp Bf : Nat) (w : World) (hc : w.cell? ⟨0, k * 3 + 2, none⟩ = some (.int .i64 3))
    (H : ∀ u, Kept w u → Calls Tryd.prog 49 #[.int .i64 a, .pointer (some ⟨Bf, 0, none⟩)] u fun e u' => e = .returned (.bool false) ∧ Kept u u') :
    Calls Tryd.prog 38 #[v, .agg #[.int .i64 k, .int .i64 a], mayV Bp Bf] w fun e w' => e = .returned (.int .i64 3) ∧ Kept w w' := by
  have h : ixB k 17 = true := ixB_true (by omega) (by omega)
  have HH : Hid (∀ u, Kept w u → Calls Tryd.prog 49 #[.int .i64 a, .pointer (some ⟨Bf, 0, none⟩)] u fun e u' => e = .returned (.bool false) ∧ Kept u u') := H
  clear H
  unfold mayV
  have c0 : ((w.alloc (.cells #[.int .i64 k, .int .i64 a] 38)).alloc (.cells #[.func (.func 46) #[] #[], .func (.func 47) #[] #[], .func (.func 48) #[] #[.pointer (some ⟨Bf, 0, none⟩)], .func (.func 49) #[] #[.pointer (some ⟨Bf, 0, none⟩)], .func (.func 50) #[] #[.pointer (some ⟨Bp, 0, none⟩)]] 63)).cell? ⟨0, k * 3 + 2, none⟩ = some (.int .i64 3) := (((Kept.refl w).alloc _).alloc _).cell hc
  clear hc
  go_enter Tryd.func38, Tryd.ntmps38
  go_wp2_with (go_at_call 35; refine (isIndex_any _ _ _).mono ?_; rintro e w' ⟨rfl, rfl⟩)
  go_region_with (go_at_call 49; refine (HH.out _ ?_).mono ?_; (repeat (first | exact Kept.refl _ | assumption | apply Kept.drew | apply Kept.alloc)); rintro e w' ⟨rfl, hkk⟩)
  all_goals go_wp2
  all_goals go_ret
  all_goals refine ⟨rfl, ?_⟩
  all_goals (repeat (first | exact Kept.refl _ | refine Kept.trans ?_ hkk | apply Kept.drew | apply Kept.alloc))
theorem checkOp3_yes (k : Nat) (a : Int) (v : Value) (hb : k < 17) (hn : ((k : Int) == 13) = false) (Bp Bf : Nat) (w : World) (hc : w.cell? ⟨0, k * 3 + 2, none⟩ = some (.int .i64 3))
    (H : ∀ u, Kept w u → Calls Tryd.prog 49 #[.int .i64 a, .pointer (some ⟨Bf, 0, none⟩)] u fun e u' => e = .returned (.bool true) ∧ Kept u u') :
    Calls Tryd.prog 38 #[v, .agg #[.int .i64 k, .int .i64 a], mayV Bp Bf] w fun e w' => e = .returned (.int .i64 0) ∧ Kept w w' := by
  have h : ixB k 17 = true := ixB_true (by omega) (by omega)
  have HH : Hid (∀ u, Kept w u → Calls Tryd.prog 49 #[.int .i64 a, .pointer (some ⟨Bf, 0, none⟩)] u fun e u' => e = .returned (.bool true) ∧ Kept u u') := H
  clear H
  unfold mayV
  have c0 : ((w.alloc (.cells #[.int .i64 k, .int .i64 a] 38)).alloc (.cells #[.func (.func 46) #[] #[], .func (.func 47) #[] #[], .func (.func 48) #[] #[.pointer (some ⟨Bf, 0, none⟩)], .func (.func 49) #[] #[.pointer (some ⟨Bf, 0, none⟩)], .func (.func 50) #[] #[.pointer (some ⟨Bp, 0, none⟩)]] 63)).cell? ⟨0, k * 3 + 2, none⟩ = some (.int .i64 3) := (((Kept.refl w).alloc _).alloc _).cell hc
  clear hc
  go_enter Tryd.func38, Tryd.ntmps38
  go_wp2_with (go_at_call 35; refine (isIndex_any _ _ _).mono ?_; rintro e w' ⟨rfl, rfl⟩)
  go_region_with (go_at_call 49; refine (HH.out _ ?_).mono ?_; (repeat (first | exact Kept.refl _ | assumption | apply Kept.drew | apply Kept.alloc)); rintro e w' ⟨rfl, hkk⟩)
  all_goals (have q0 := hkk.cell (cell_lays (t := 38) (fr := (0, 0)) (b := w.heap.size) (c := #[.int .i64 k, .int .i64 a]) (by repeat (first | exact lays_new rfl | refine lays_alloc ?_ _ | refine lays_drew ?_)) 0))
  all_goals (have q1 := hkk.cell (cell_lays (t := 38) (fr := (0, 0)) (b := w.heap.size) (c := #[.int .i64 k, .int .i64 a]) (by repeat (first | exact lays_new rfl | refine lays_alloc ?_ _ | refine lays_drew ?_)) 1))
  all_goals go_wp2
  all_goals go_ret
  all_goals refine ⟨rfl, ?_⟩
  all_goals (repeat (first | exact Kept.refl _ | refine Kept.trans ?_ hkk | apply Kept.drew | apply Kept.alloc))
end Go.Proofs.YtkepbeeioalmbabDoor
