/-
  The contract of the statements' own flowBegun: it answers true.
-/
import Derived.Test.YtkepbeeioalmbaaDoorFlowH0
import Derived.Test.YtkepbeeioalmbaaDoorSame
namespace Go.Proofs.YtkepbeeioalmbaaDoor
open Go.RowKit

set_option maxHeartbeats 4000000 in
theorem flowBegun_any (w : World) (hk : KindsAt w) :
    Calls Tryd.prog 17 #[] w fun e w' => e = .returned (.bool true) ∧ Kept w w' := by
  have HK := hide hk
  clear hk
  go_enter Tryd.func17, Tryd.ntmps17
  go_wp2_with fail
  refine (count_any _).mono ?_
  rintro e w1 ⟨v1, rfl, hc1, hk1⟩
  have H1 : Hid (Kept w w1) := hk1
  have C1 := hide hc1
  clear hc1 hk1
  go_wp2_with fail
  refine (heights_is cntL _ _ [0, 1, 1, 0, 1, 2, 1, 1, 0, 1, -1, -1] 0 _ (unhide C1).prog ((unhide HK).kept H1.out) (by decide +kernel)).mono ?_
  rintro e w2 ⟨u2, rfl, hi2, hk2⟩
  have H2 : Hid (Kept w w2) := H1.out.trans hk2
  have I2 := hide hi2
  clear hi2 hk2 H1 C1
  go_wp2_with fail
  refine (count_any _).mono ?_
  rintro e w3 ⟨v3, rfl, hc1, hk1⟩
  have H3 : Hid (Kept w w3) := H2.out.trans hk1
  have I3 := hide ((unhide I2).kept hk1)
  have C1 := hide hc1
  clear hc1 hk1 H2 I2
  go_wp2_with fail
  refine (heights_is cntL _ _ [] 5 _ (unhide C1).prog ((unhide HK).kept H3.out) (by decide +kernel)).mono ?_
  rintro e w4 ⟨u4, rfl, _, hk2⟩
  have H4 : Hid (Kept w w4) := H3.out.trans hk2
  have I4 := hide ((unhide I3).kept hk2)
  clear hk2 H3 I3 C1
  go_wp2_with (go_at_call 25; refine (o_any _ _ _).mono ?_; rintro e w' ⟨rfl, rfl⟩)
  refine (heights_is [⟨0, 0, [(1, 0), (12, 0)]⟩] _ _ [] 1 _ ?_ ((unhide HK).kept ((((H4.out.alloc _).alloc _).alloc _).alloc _)) (by decide +kernel)).mono ?_
  · exact one_prog (b0 := w4.heap.size + 1 + 1) (b := w4.heap.size + 1 + 1 + 1) (lays_alloc (lays_new (by simp)) _) rfl (by decide) rfl (lays_new (by simp))
  rintro e w5 ⟨u5, rfl, _, hk2⟩
  have hk4 := ((((Kept.refl w4).alloc _).alloc _).alloc _).alloc _ |>.trans hk2
  have H5 : Hid (Kept w w5) := H4.out.trans hk4
  have I5 := hide ((unhide I4).kept hk4)
  clear hk2 hk4 H4 I4
  go_wp2_with (go_at_call 25; refine (o_any _ _ _).mono ?_; rintro e w' ⟨rfl, rfl⟩)
  refine (heights_is [⟨0, 0, [(0, 0)]⟩] _ _ [] 1 _ ?_ ((unhide HK).kept (((H5.out.alloc _).alloc _).alloc _)) (by decide +kernel)).mono ?_
  · exact one_prog (b0 := w5.heap.size + 1) (b := w5.heap.size + 1 + 1) (lays_alloc (lays_new (by simp)) _) rfl (by decide) rfl (lays_new (by simp))
  rintro e w6 ⟨u6, rfl, _, hk2⟩
  have hk4 := (((Kept.refl w5).alloc _).alloc _).alloc _ |>.trans hk2
  have H6 : Hid (Kept w w6) := H5.out.trans hk4
  have I6 := hide ((unhide I5).kept hk4)
  clear hk2 hk4 H5 I5
  go_wp2_with (go_at_call 25; refine (o_any _ _ _).mono ?_; rintro e w' ⟨rfl, rfl⟩)
  refine (heights_is [⟨0, 0, [(0, 0), (10, 3), (9, 0), (0, 1), (12, 0)]⟩] _ _ [0, 1, 0, 0, 1] 0 _ ?_ ((unhide HK).kept (((((((H6.out.alloc _).alloc _).alloc _).alloc _).alloc _).alloc _).alloc _)) (by decide +kernel)).mono ?_
  · exact one_prog (b0 := w6.heap.size + 1 + 1 + 1 + 1 + 1) (b := w6.heap.size + 1 + 1 + 1 + 1 + 1 + 1) (lays_alloc (lays_new (by simp)) _) rfl (by decide) rfl (lays_new (by simp))
  rintro e w7 ⟨u7, rfl, hi7, hk2⟩
  have hk4 := (((((((Kept.refl w6).alloc _).alloc _).alloc _).alloc _).alloc _).alloc _).alloc _ |>.trans hk2
  have H7 : Hid (Kept w w7) := H6.out.trans hk4
  have I7 := hide ((unhide I6).kept hk4)
  have J7 := hide hi7
  clear hk2 hk4 H6 I6 hi7
  go_wp2_with fail
  refine (sameInts_any _ [0, 1, 1, 0, 1, 2, 1, 1, 0, 1, -1, -1] _ _ _ ((unhide I7).kept ((Kept.refl _).alloc _)) ?_).mono ?_
  · exact ints_block (lays_new (by simp)) rfl (by decide) rfl
  rintro e w8 ⟨rfl, hk2⟩
  have hk4 := (Kept.refl w7).alloc _ |>.trans hk2
  have H8 : Hid (Kept w w8) := H7.out.trans hk4
  have J8 := hide ((unhide J7).kept hk4)
  clear hk2 hk4 H7 J7 I7
  go_wp2_with fail
  refine (sameInts_any _ [0, 1, 0, 0, 1] _ _ _ ((unhide J8).kept ((Kept.refl _).alloc _)) ?_).mono ?_
  · exact ints_block (lays_new (by simp)) rfl (by decide) rfl
  rintro e w9 ⟨rfl, hk2⟩
  have H9 : Hid (Kept w w9) := (H8.out.alloc _).trans hk2
  clear hk2 H8 J8
  go_wp2
  go_ret
  exact ⟨rfl, H9⟩
end Go.Proofs.YtkepbeeioalmbaaDoor
