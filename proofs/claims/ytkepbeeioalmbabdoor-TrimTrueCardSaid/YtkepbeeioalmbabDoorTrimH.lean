/-
  The contract of the statements' own trimBegun: it answers true.
-/
import Derived.Test.YtkepbeeioalmbabDoorTrimG
import Derived.Test.YtkepbeeioalmbabDoorFlowH0
import Derived.Deep.RegionHeld3
namespace Go.Proofs.YtkepbeeioalmbabDoor
open Go.RowKit

theorem trimFunc_is (p : List Fn) (v : Value) (f : Int) (ar lo : Int) (c : List (Int × Int)) (er : Int) (w : World) (hp : ProgAt w v p) (hk : KindsAt w) (h1 : (tfS p f).1.args = ar) (h2 : (tfS p f).1.locals = lo) (h3 : (tfS p f).1.code = c) (h4 : (tfS p f).2 = er) :
    Calls Tryd.prog 15 #[v, .int .i64 f] w fun e w' => ∃ oc cc, e = .returned (.tuple #[.agg #[.int .i64 ar, .int .i64 lo, .slice oc c.length cc], .int .i64 er]) ∧ CodeAt w' (.slice oc c.length cc) c ∧ Kept w w' := by
  refine (trimFunc_any p v f w hp hk).mono ?_
  rintro e w' ⟨cv, rfl, hc, hk'⟩
  rw [h1, h2, h4]
  rw [h3] at hc
  obtain ⟨oc, cc, rfl, _⟩ := id hc
  exact ⟨oc, cc, rfl, hc.code, hk'⟩

set_option maxHeartbeats 2000000 in
set_option maxRecDepth 100000 in
theorem trimBegun_any (w : World) (hk : KindsAt w) :
    Calls Tryd.prog 19 #[] w fun e w' => e = .returned (.bool true) ∧ Kept w w' := by
  have HK := hide hk
  clear hk
  go_enter Tryd.func19, Tryd.ntmps19
  go_wp2_with fail
  refine (count_any _).mono ?_
  rintro e w1 ⟨v1, rfl, hc1, hk1⟩
  have H1 : Hid (Kept w w1) := hk1
  have C1 := hide hc1
  clear hc1 hk1
  go_wp2_with fail
  refine (trimFunc_is cntL _ _ 1 1 (cnt1.take 10) 0 _ (unhide C1).prog ((unhide HK).kept H1.out) (by decide +kernel) (by decide +kernel) (by decide +kernel) (by decide +kernel)).mono ?_
  rintro e w2 ⟨oc2, cc2, rfl, hjunk, hk2⟩
  clear hjunk
  have H2 : Hid (Kept w w2) := H1.out.trans hk2
  clear hk2 H1 C1
  simp only [show (cnt1.take 10).length = 10 from rfl]
  go_wp2_with fail
  refine (count_any _).mono ?_
  rintro e w3 ⟨v3, rfl, hc3, hk3⟩
  have X3 : Hid (w3.heap[w2.heap.size]? = some (.cells #[.int .i64 1, .int .i64 1, .slice oc2 10 cc2] 36)) := lays_kept hk3 (lays_new rfl)
  have H3 : Hid (Kept w w3) := (H2.out.alloc _).trans hk3
  have C3 := hide hc3
  clear hc3 hk3 H2
  go_wp2_with fail
  refine (trimAll_any cntL _ _ (unhide C3).prog ((unhide HK).kept H3.out)).mono ?_
  rintro e w4 ⟨v4, rfl, hp4, hk4⟩
  obtain ⟨oa4, cap4, rfl, hj1, hj2⟩ := hp4
  clear hj1 hj2
  have X4 : Hid (w4.heap[w2.heap.size]? = some (.cells #[.int .i64 1, .int .i64 1, .slice oc2 10 cc2] 36)) := lays_kept hk4 (unhide X3)
  have H4 : Hid (Kept w w4) := H3.out.trans hk4
  clear hk4 H3 C3 X3
  rw [show progS cntL = 0 by decide +kernel, show (taS cntL).length = 3 by decide +kernel]
  go_wp2_with (go_at_call 33; refine (o_any _ _ _).mono ?_; rintro e w' ⟨rfl, rfl⟩)
  refine (trimFunc_is [⟨0, 0, [(9, 2), (1, 0), (0, 1), (12, 0)]⟩] _ _ 0 0 [(9, 1), (0, 1), (12, 0)] 0 _ ?_ ((unhide HK).kept ((((((H4.out.alloc _).alloc _).alloc _).alloc _).alloc _).alloc _)) (by decide +kernel) (by decide +kernel) (by decide +kernel) (by decide +kernel)).mono ?_
  · exact one_prog (b0 := w4.heap.size + 1 + 1 + 1 + 1) (b := w4.heap.size + 1 + 1 + 1 + 1 + 1) (lays_alloc (lays_new (by simp)) _) rfl (by decide) rfl (lays_new (by simp))
  rintro e w5 ⟨oc5, cc5, rfl, hc5, hk5⟩
  have hk45 : Kept w4 w5 := ((((((Kept.refl w4).alloc _).alloc _).alloc _).alloc _).alloc _).alloc _ |>.trans hk5
  have X5 : Hid (w5.heap[w2.heap.size]? = some (.cells #[.int .i64 1, .int .i64 1, .slice oc2 10 cc2] 36)) := lays_kept hk45 (unhide X4)
  have H5 : Hid (Kept w w5) := H4.out.trans hk45
  have Y5 := hide hc5
  clear hk5 hk45 H4 X4 hc5
  simp only [List.length_cons, List.length_nil, Nat.zero_add, Nat.reduceAdd]
  go_wp2_with fail
  refine (count_any _).mono ?_
  rintro e w6 ⟨v6, rfl, hc6, hk6⟩
  have hk56 : Kept w5 w6 := ((Kept.refl w5).alloc _).trans hk6
  have X6 : Hid (w6.heap[w2.heap.size]? = some (.cells #[.int .i64 1, .int .i64 1, .slice oc2 10 cc2] 36)) := lays_kept hk56 (unhide X5)
  have Z6 : Hid (w6.heap[w5.heap.size]? = some (.cells #[.int .i64 0, .int .i64 0, .slice oc5 3 cc5] 36)) := lays_kept hk6 (lays_new rfl)
  have H6 : Hid (Kept w w6) := H5.out.trans hk56
  have Y6 := hide ((unhide Y5).kept hk56)
  have C6 := hide hc6
  clear hk6 hk56 H5 X5 Y5 hc6
  go_wp2_with fail
  refine (trimFunc_is cntL _ _ 0 0 [] 5 _ (unhide C6).prog ((unhide HK).kept H6.out) (by decide +kernel) (by decide +kernel) (by decide +kernel) (by decide +kernel)).mono ?_
  rintro e w7 ⟨oc7, cc7, rfl, hjunk, hk7⟩
  clear hjunk
  have hk67 := hk7.alloc (.cells #[.int .i64 0, .int .i64 0, .slice oc7 0 cc7] 36)
  simp only [List.length_nil]
  go_wp2_with fail
  generalize hW : w7.alloc (Obj.cells #[Value.int IntKind.i64 0, Value.int IntKind.i64 0, Value.slice oc7 0 cc7] 36) = W8 at *
  have X8 := lays_kept hk67 (unhide X6)
  have Z8 := lays_kept hk67 (unhide Z6)
  have H8 : Hid (Kept w W8) := H6.out.trans hk67
  have Y8 := hide ((unhide Y6).kept hk67)
  have x2 := cell_lays X8 2
  have y0 := cell_lays Z8 0
  have y1 := cell_lays Z8 1
  have y2 := cell_lays Z8 2
  simp only [List.getElem?_toArray, List.getElem?_cons_zero, List.getElem?_cons_succ] at x2 y0 y1 y2
  clear hk7 hk67 H6 X6 Y6 Z6 C6 hW X8 Z8
  have HY : Hid (∀ u, Kept W8 u → u.cell? ⟨w2.heap.size, 2, none⟩ = some (.slice oc2 10 cc2) ∧ u.cell? ⟨w5.heap.size, 0, none⟩ = some (.int .i64 0) ∧ u.cell? ⟨w5.heap.size, 1, none⟩ = some (.int .i64 0) ∧ u.cell? ⟨w5.heap.size, 2, none⟩ = some (.slice oc5 3 cc5)) :=
    hide (fun u hu => ⟨hu.cell x2, hu.cell y0, hu.cell y1, hu.cell y2⟩)
  go_cut [0] (fun s0 wx => s0 = .bool true ∧ Hid (Kept W8 wx))
  case first =>
    go_region_held3 (fun u => u.cell? ⟨w2.heap.size, 2, none⟩ = some (.slice oc2 10 cc2) ∧ u.cell? ⟨w5.heap.size, 0, none⟩ = some (.int .i64 0) ∧ u.cell? ⟨w5.heap.size, 1, none⟩ = some (.int .i64 0) ∧ u.cell? ⟨w5.heap.size, 2, none⟩ = some (.slice oc5 3 cc5))
      (first | exact (unhide HY) _ (Kept.trans (by repeat (first | exact Kept.refl _ | refine Kept.drew ?_ | refine Kept.alloc ?_ _)) hkk) | exact (unhide HY) _ (by repeat (first | exact Kept.refl _ | refine Kept.drew ?_ | refine Kept.alloc ?_ _)))
      (first | (go_at_call 33; refine (o_any _ _ _).mono ?_; rintro e w' ⟨rfl, rfl⟩) | (go_at_call 20; refine (sameFuncs_same 0 0 [(9, 1), (0, 1), (12, 0)] _ _ _ ?_ ?_).mono ?_; (exact (unhide Y8).kept (by repeat (first | exact Kept.refl _ | refine Kept.drew ?_ | refine Kept.alloc ?_ _))); (exact codeAt_block (by repeat (first | exact lays_new (by simp) | refine lays_alloc ?_ _ | refine lays_drew ?_)) [(9, 1), (0, 1), (12, 0)] rfl (by decide) 3 3 rfl); rintro e w' ⟨rfl, hkk⟩))
    all_goals go_wp2_with fail
    all_goals go_meet
    all_goals exact ⟨rfl, hide (Kept.trans (by repeat (first | exact Kept.refl _ | refine Kept.drew ?_ | refine Kept.alloc ?_ _)) hkk)⟩
  case rest =>
    obtain ⟨rfl, HKx⟩ := hcut
    go_wp2
    go_ret
    exact ⟨rfl, H8.out.trans (unhide HKx)⟩
end Go.Proofs.YtkepbeeioalmbabDoor
