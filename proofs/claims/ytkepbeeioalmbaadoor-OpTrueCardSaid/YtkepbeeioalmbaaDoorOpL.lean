/-
  The contract of the statements' own opBegun: it answers true.
-/
import Derived.Test.YtkepbeeioalmbaaDoorOpL0
namespace Go.Proofs.YtkepbeeioalmbaaDoor
open Go.RowKit

set_option maxHeartbeats 4000000 in
theorem opBegun_any (w : World) (hk : KindsAt w) :
    Calls Tryd.prog 11 #[] w fun e w' => e = .returned (.bool true) ∧ Kept w w' := by
  have HK := hide hk
  clear hk
  go_enter Tryd.func11, Tryd.ntmps11
  go_wp2_with fail
  refine (count_any _).mono ?_
  rintro e w1 ⟨v1, rfl, hc1, hk1⟩
  have H1 : Hid (Kept w w1) := hk1
  have C1 := hide hc1
  clear hc1 hk1
  go_wp2_with (go_at_call 25; refine (o_any _ _ _).mono ?_; rintro e w' ⟨rfl, rfl⟩)
  refine (effect_is cntL _ _ _ 2 1 0 _ ((unhide C1).prog.kept ((Kept.refl _).alloc _)) ((unhide HK).kept (H1.out.alloc _)) rfl).mono ?_
  rintro e w2 ⟨rfl, hk2⟩
  have H2 : Hid (Kept w w2) := (H1.out.alloc _).trans hk2
  clear hk2 H1 C1
  go_wp2_with fail
  refine (count_any _).mono ?_
  rintro e w3 ⟨v3, rfl, hc1, hk1⟩
  have H3 : Hid (Kept w w3) := H2.out.trans hk1
  have C1 := hide hc1
  clear hc1 hk1 H2
  go_wp2_with (go_at_call 25; refine (o_any _ _ _).mono ?_; rintro e w' ⟨rfl, rfl⟩)
  refine (effect_is cntL _ _ _ 2 1 0 _ ((unhide C1).prog.kept ((Kept.refl _).alloc _)) ((unhide HK).kept (H3.out.alloc _)) rfl).mono ?_
  rintro e w4 ⟨rfl, hk2⟩
  have H4 : Hid (Kept w w4) := (H3.out.alloc _).trans hk2
  clear hk2 H3 C1
  go_wp2_with fail
  refine (count_any _).mono ?_
  rintro e w5 ⟨v5, rfl, hc1, hk1⟩
  have H5 : Hid (Kept w w5) := H4.out.trans hk1
  have C1 := hide hc1
  clear hc1 hk1 H4
  go_wp2_with (go_at_call 25; refine (o_any _ _ _).mono ?_; rintro e w' ⟨rfl, rfl⟩)
  refine (effect_is cntL _ _ _ 0 0 5 _ ((unhide C1).prog.kept ((Kept.refl _).alloc _)) ((unhide HK).kept (H5.out.alloc _)) rfl).mono ?_
  rintro e w6 ⟨rfl, hk2⟩
  have H6 : Hid (Kept w w6) := (H5.out.alloc _).trans hk2
  clear hk2 H5 C1
  go_wp2_with (go_at_call 25; refine (o_any _ _ _).mono ?_; rintro e w' ⟨rfl, rfl⟩)
  refine (effect_is [] _ _ _ 0 0 4 _ (nilProg _) ((unhide HK).kept (H6.out.alloc _)) rfl).mono ?_
  rintro e w7 ⟨rfl, hk2⟩
  have H7 : Hid (Kept w w7) := (H6.out.alloc _).trans hk2
  clear hk2 H6
  go_wp2_with fail
  refine (count_any _).mono ?_
  rintro e w8 ⟨v8, rfl, hc1, hk1⟩
  obtain ⟨b, b0, hb0, rfl, x2, x1, xf, hx⟩ := hc1.opened
  have H9 : Hid (Kept w (w8.setCell ⟨b0, 1, none⟩ (.int .i64 2))) := (H7.out.trans hk1).setCell (Nat.le_trans H7.out.size hb0) _
  have HX := hide hx
  clear hx hc1 hk1 hb0 H7
  go_wp2_with fail
  refine (count_any _).mono ?_
  rintro e w10 ⟨v10, rfl, hc1, hk1⟩
  have H10 : Hid (Kept w w10) := H9.out.trans hk1
  have HX2 := hide ((unhide HX).kept hk1)
  have C1 := hide hc1
  clear hc1 hk1 H9 HX
  go_wp2_with fail
  refine (check_is cntL _ _ 0 _ (unhide C1).prog ((unhide HK).kept H10.out) rfl).mono ?_
  rintro e w11 ⟨rfl, hk1⟩
  have H11 : Hid (Kept w w11) := H10.out.trans hk1
  have HX3 := hide ((unhide HX2).kept hk1)
  clear hk1 H10 HX2 C1
  go_wp2_with fail
  refine (count_any _).mono ?_
  rintro e w12 ⟨v12, rfl, hc1, hk1⟩
  have H12 : Hid (Kept w w12) := H11.out.trans hk1
  have HX4 := hide ((unhide HX3).kept hk1)
  have C1 := hide hc1
  clear hc1 hk1 H11 HX3
  go_wp2_with fail
  refine (check_is cntL _ _ 5 _ (unhide C1).prog ((unhide HK).kept H12.out) rfl).mono ?_
  rintro e w13 ⟨rfl, hk1⟩
  have H13 : Hid (Kept w w13) := H12.out.trans hk1
  have HX5 := hide ((unhide HX4).kept hk1)
  clear hk1 H12 HX4 C1
  go_wp2_with fail
  refine (check_is cntX _ _ 1 _ (unhide HX5) ((unhide HK).kept H13.out) rfl).mono ?_
  rintro e w14 ⟨rfl, hk1⟩
  have H14 : Hid (Kept w w14) := H13.out.trans hk1
  clear hk1 H13 HX5
  go_wp2_with (go_at_call 25; refine (o_any _ _ _).mono ?_; rintro e w' ⟨rfl, rfl⟩)
  refine (check_is [⟨0, 0, [(2, 0)]⟩] _ _ 3 _ ?_ ((unhide HK).kept (((H14.out.alloc _).alloc _).alloc _)) rfl).mono ?_
  · refine progAt_block (b := w14.heap.size + 1 + 1) (t := 34) (fr := (0, 0)) (A := #[.int .i64 0, .int .i64 0, .slice (some ⟨w14.heap.size + 1, 0, none⟩) 1 1]) (lays_new (by simp)) [(⟨0, 0, [(2, 0)]⟩, .slice (some ⟨w14.heap.size + 1, 0, none⟩) 1 1)] rfl (by simp) ?_ 1 1 rfl _ rfl
    intro x hx
    simp only [List.mem_cons, List.not_mem_nil, or_false] at hx
    subst hx
    exact codeAt_block (lays_alloc (lays_new (by simp)) _) [(2, 0)] rfl (by decide) 1 1 rfl
  rintro e w15 ⟨rfl, hk1⟩
  have H15 : Hid (Kept w w15) := (((H14.out.alloc _).alloc _).alloc _).trans hk1
  clear hk1 H14
  go_wp2
  go_ret
  exact ⟨rfl, H15⟩
end Go.Proofs.YtkepbeeioalmbaaDoor
