/-
  Proved: whatever program and state it is handed, the statement StateTells (E1, E2: state.Begin and state.Check answer just what the document says, errors too) returns true, and its arguments read afterwards as they read before. Conditions: the variable op.kinds starts as the program's text lays it (the card ties it); nothing else beyond the form's own.
-/
import Derived.Test.YtohlefnljgkdcabDoorCards
import Derived.Test.YtohlefnljgkdcabDoorTie
import Derived.Test.YtohlefnljgkdcabDoorST01
import Derived.Test.YtohlefnljgkdcabDoorST11
import Derived.Test.YtohlefnljgkdcabDoorST43
import Derived.Test.YtohlefnljgkdcabDoorST35
import Derived.Test.YtohlefnljgkdcabDoorST44
import Derived.Test.YtohlefnljgkdcabDoorST33
import Derived.Deep.DeepHandedRow
namespace Go.Proofs.YtohlefnljgkdcabDoor
open Go.RowKit Go.ChangeShapes Go.WideShapes Go.ChangeAt

set_option maxRecDepth 100000 in
set_option maxHeartbeats 4000000 in
theorem stateTells_walk (p : List Fn) (vp : Value) (s : St) (v : Value) (w : World) (hp : ProgAt w vp p) (hs : StAt w v s) (hk : KindsAt w) :
    Calls Tryd.prog 8 #[vp, v] w fun e w' => e = .returned (.bool true) ∧ Kept w w' := by
  obtain ⟨oa, cp, rfl, _, _⟩ := id hp
  have HP := hide hp
  have HK := hide hk
  have HS := hide hs
  obtain ⟨vf, vo, rfl, hF, hO⟩ := hs
  obtain ⟨pFA, qFA, rfl, _, _⟩ := hF
  obtain ⟨pOA, qOA, rfl, _, _⟩ := hO
  clear hp hk
  go_enter Tryd.func8, Tryd.ntmps8
  go_wp2_with fail
  generalize hw1 : w.alloc (.cells #[.slice pFA s.fibers.length qFA, .int .i64 s.now, .slice pOA s.out.length qOA] 54) = w1
  have LA : w1.heap[w.heap.size]? = some (.cells #[.slice pFA s.fibers.length qFA, .int .i64 s.now, .slice pOA s.out.length qOA] 54) := by rw [← hw1]; exact lays_new rfl
  have hk1 : Kept w w1 := by rw [← hw1]; exact (Kept.refl w).alloc _
  have HC := hide (stBegin_any p _ w1 ((unhide HP).kept hk1) ((unhide HK).kept hk1))
  have H1 := hide hk1
  have HLA := hide LA
  generalize w.heap.size = A at HLA ⊢
  clear hw1 hk1 LA
  refine (unhide HC).mono ?_
  generalize hsB : (if progS p = 0 then beginS p else St.zero) = sB
  unfold BegPost
  rw [hsB]
  rintro _ w2 ⟨vb, rfl, hst2, hk2⟩
  obtain ⟨vf, vo, rfl, hF, hO⟩ := id hst2
  obtain ⟨pF5, qF5, rfl, _, _⟩ := hF
  obtain ⟨pO5, qO5, rfl, _, _⟩ := hO
  have HSB := hide hsB
  clear hsB
  go_upto_region 2 with fail
  generalize hw3 : w2.alloc (.cells #[.slice pF5 sB.fibers.length qF5, .int .i64 sB.now, .slice pO5 sB.out.length qO5] 54) = w3
  have L5 : w3.heap[w2.heap.size]? = some (.cells #[.slice pF5 sB.fibers.length qF5, .int .i64 sB.now, .slice pO5 sB.out.length qO5] 54) := by rw [← hw3]; exact lays_new rfl
  have hk23 : Kept w2 w3 := by rw [← hw3]; exact (Kept.refl w2).alloc _
  have HT5 := hide (hst2.kept hk23)
  have H3 := hide (((unhide H1).trans hk2).trans hk23)
  have HLA3 := hide (lays_kept (hk2.trans hk23) (unhide HLA))
  have HL5 := hide L5
  generalize w2.heap.size = B5 at HL5 ⊢
  clear hw3 hk23 L5 hst2 hk2 HC H1 HLA
  have HE := hide (progError_any p _ w3 ((unhide HP).kept (unhide H3)))
  go_wp2_with fail
  refine (unhide HE).mono ?_
  rintro _ w4 ⟨rfl, hk4⟩
  have H4 := hide ((unhide H3).trans hk4)
  have HLA4 := hide (lays_kept hk4 (unhide HLA3))
  have HL54 := hide (lays_kept hk4 (unhide HL5))
  have HT54 := hide ((unhide HT5).kept hk4)
  clear hk4 HE HLA3 HL5 HT5 H3
  by_cases hz : progS p = 0
  · have hsb : sB = beginS p := by rw [← unhide HSB, if_pos hz]
    subst hsb
    have HZ := hide hz
    have hbz : (progS p == 0) = true := beq_iff_eq.2 hz
    clear hz
    go_upto_region 4 with fail
    generalize hw4 : w4.alloc (.cells #[.slice none 0 0, .int .i64 0, .slice none 0 0] 54) = x4
    have L0 : x4.heap[w4.heap.size]? = some (.cells #[.slice none 0 0, .int .i64 0, .slice none 0 0] 54) := by rw [← hw4]; exact lays_new rfl
    have hkx : Kept w4 x4 := by rw [← hw4]; exact (Kept.refl w4).alloc _
    have hxs : x4.heap.size = w4.heap.size + 1 := by rw [← hw4]; simp
    have HB := hide (beginOf_sharp p _ x4 ((unhide HP).kept ((unhide H4).trans hkx)) (unhide HZ))
    have HL0 := hide L0
    have HKX := hide hkx
    have HXS := hide hxs
    clear hw4 hkx L0 hxs
    generalize hB8 : w4.heap.size = B8 at *
    have HB8 := hide hB8
    clear hB8
    go_wp2_with fail
    refine (unhide HB).mono ?_
    rintro _ x5 ⟨vg, rfl, hnew, hkg⟩
    obtain ⟨vf, vo, rfl, hF, hO⟩ := id (hnew x5 (fun _ _ => rfl))
    obtain ⟨pF8, qF8, rfl, _, _⟩ := hF
    obtain ⟨pO8, qO8, rfl, _, _⟩ := hO
    have L05 := lays_kept hkg (unhide HL0)
    have r0 := cell_lays L05 0
    have r1 := cell_lays L05 1
    have r2 := cell_lays L05 2
    have f0 := frozen_lays L05 0
    have f1 := frozen_lays L05 1
    have f2 := frozen_lays L05 2
    have L8 := lay3 (x := .slice pF8 (beginS p).fibers.length qF8) (y := .int .i64 (beginS p).now) (z := .slice pO8 (beginS p).out.length qO8) L05
    have hk45 : Kept w4 (((x5.setCell ⟨B8, 0, none⟩ (.slice pF8 (beginS p).fibers.length qF8)).setCell ⟨B8, 1, none⟩ (.int .i64 (beginS p).now)).setCell ⟨B8, 2, none⟩ (.slice pO8 (beginS p).out.length qO8)) := by
      have hle : w4.heap.size ≤ B8 := Nat.le_of_eq (unhide HB8)
      exact (((((unhide HKX).trans hkg).setCell (p := ⟨B8, 0, none⟩) hle _).setCell (p := ⟨B8, 1, none⟩) hle _).setCell (p := ⟨B8, 2, none⟩) hle _)
    have hst8 : StAt (((x5.setCell ⟨B8, 0, none⟩ (.slice pF8 (beginS p).fibers.length qF8)).setCell ⟨B8, 1, none⟩ (.int .i64 (beginS p).now)).setCell ⟨B8, 2, none⟩ (.slice pO8 (beginS p).out.length qO8)) (.agg #[.slice pF8 (beginS p).fibers.length qF8, .int .i64 (beginS p).now, .slice pO8 (beginS p).out.length qO8]) (beginS p) := hnew _ (fun b hb => by
      have := unhide HXS
      rw [Below.heap_setCell _ _ _ _ (by simp only; omega), Below.heap_setCell _ _ _ _ (by simp only; omega), Below.heap_setCell _ _ _ _ (by simp only; omega)])
    have LA5 := lays_kept hk45 (unhide HLA4)
    have L55 := lays_kept hk45 (unhide HL54)
    have HT55 := hide ((unhide HT54).kept hk45)
    have H5 := hide ((unhide H4).trans hk45)
    clear L05 hnew hkg hk45 HB
    go_upto_region 6 with fail
    generalize ((x5.setCell ⟨B8, 0, none⟩ (.slice pF8 (beginS p).fibers.length qF8)).setCell ⟨B8, 1, none⟩ (.int .i64 (beginS p).now)).setCell ⟨B8, 2, none⟩ (.slice pO8 (beginS p).out.length qO8) = w5 at LA5 L55 L8 HT55 H5 hst8 ⊢
    clear r0 r1 r2 f0 f1 f2
    have HT8 := hide hst8
    have HTA := hide ((unhide HS).kept (unhide H5))
    have m0 := cell_lays LA5 0
    have m1 := cell_lays LA5 1
    have m2 := cell_lays LA5 2
    have m3 := cell_lays L55 0
    have m4 := cell_lays L55 1
    have m5 := cell_lays L55 2
    have m6 := cell_lays L8 0
    have m7 := cell_lays L8 1
    have m8 := cell_lays L8 2
    have HYS : Hid (∀ u, Kept w5 u → u.cell? ⟨A, 0, none⟩ = some (.slice pFA s.fibers.length qFA) ∧ u.cell? ⟨A, 1, none⟩ = some (.int .i64 s.now) ∧ u.cell? ⟨A, 2, none⟩ = some (.slice pOA s.out.length qOA) ∧ u.cell? ⟨B5, 0, none⟩ = some (.slice pF5 (beginS p).fibers.length qF5) ∧ u.cell? ⟨B5, 1, none⟩ = some (.int .i64 (beginS p).now) ∧ u.cell? ⟨B5, 2, none⟩ = some (.slice pO5 (beginS p).out.length qO5) ∧ u.cell? ⟨B8, 0, none⟩ = some (.slice pF8 (beginS p).fibers.length qF8) ∧ u.cell? ⟨B8, 1, none⟩ = some (.int .i64 (beginS p).now) ∧ u.cell? ⟨B8, 2, none⟩ = some (.slice pO8 (beginS p).out.length qO8)) := hide (fun u hu => ⟨hu.cell m0, hu.cell m1, hu.cell m2, hu.cell m3, hu.cell m4, hu.cell m5, hu.cell m6, hu.cell m7, hu.cell m8⟩)
    have HK5 := hide ((unhide HK).kept (unhide H5))
    have HP5 := hide ((unhide HP).kept (unhide H5))
    have hpe : (progS p == progS p) = true := by simp
    clear m0 m1 m2 m3 m4 m5 m6 m7 m8 LA5 L55 L8 hst8
    refine wp_region_held_drew (S := (fun u => u.cell? ⟨A, 0, none⟩ = some (.slice pFA s.fibers.length qFA) ∧ u.cell? ⟨A, 1, none⟩ = some (.int .i64 s.now) ∧ u.cell? ⟨A, 2, none⟩ = some (.slice pOA s.out.length qOA) ∧ u.cell? ⟨B5, 0, none⟩ = some (.slice pF5 (beginS p).fibers.length qF5) ∧ u.cell? ⟨B5, 1, none⟩ = some (.int .i64 (beginS p).now) ∧ u.cell? ⟨B5, 2, none⟩ = some (.slice pO5 (beginS p).out.length qO5) ∧ u.cell? ⟨B8, 0, none⟩ = some (.slice pF8 (beginS p).fibers.length qF8) ∧ u.cell? ⟨B8, 1, none⟩ = some (.int .i64 (beginS p).now) ∧ u.cell? ⟨B8, 2, none⟩ = some (.slice pO8 (beginS p).out.length qO8))) (by kernel_rfl) ((unhide HYS) _ (Kept.drew (Kept.refl _))) (fun hHeld => ?_)
    refine take_one (i := 0) rfl (by kernel_rfl) (fun K hK => ?_)
    go_simp
    refine (stateBegun_any _ ((unhide HK5).kept (Kept.drew (Kept.refl _)))).mono ?_
    rintro _ n1 ⟨rfl, hq1⟩
    have j1 : Kept w5 n1 := Kept.trans (Kept.drew (Kept.refl w5)) hq1
    refine hK.out _ _ ((unhide HYS) _ j1) (fun hHeld => ?_)
    clear hK K
    try simp only [Act.put, List.setIfInBounds_toArray, List.set_cons_zero, List.set_cons_succ]
    refine take_yes (i := 1) (v := ?_) rfl (by kernel_rfl) (by kernel_rfl) (by kernel_rfl) (fun _ _ _ h => h) (by rfl) (fun u hSu => ?_) hHeld ?_
    rotate_left
    · ((try dsimp only at hSu); go_simp) <;> with_reducible rfl
    try simp only [Act.put, List.setIfInBounds_toArray, List.set_cons_zero, List.set_cons_succ]
    refine take_yes (i := 2) (v := ?_) rfl (by kernel_rfl) (by kernel_rfl) (by kernel_rfl) (fun _ _ _ h => h) (by rfl) (fun u hSu => ?_) hHeld ?_
    rotate_left
    · ((try dsimp only at hSu); go_simp) <;> with_reducible rfl
    try simp only [Act.put, List.setIfInBounds_toArray, List.set_cons_zero, List.set_cons_succ]
    refine take_yes (i := 3) (v := ?_) rfl (by kernel_rfl) (by kernel_rfl) (by kernel_rfl) (fun _ _ _ h => h) (by rfl) (fun u hSu => ?_) hHeld ?_
    rotate_left
    · ((try dsimp only at hSu); go_simp) <;> with_reducible rfl
    try simp only [Act.put, List.setIfInBounds_toArray, List.set_cons_zero, List.set_cons_succ]
    refine take_one (i := 4) rfl (by kernel_rfl) (fun K hK => ?_)
    go_simp
    refine (sameStates_same (beginS p) _ _ n1 ((unhide HT55).kept j1) ((unhide HT8).kept j1)).mono ?_
    rintro _ n2 ⟨rfl, hq2⟩
    have j2 : Kept w5 n2 := Kept.trans j1 hq2
    refine hK.out _ _ ((unhide HYS) _ j2) (fun hHeld => ?_)
    clear hK K
    try simp only [Act.put, List.setIfInBounds_toArray, List.set_cons_zero, List.set_cons_succ]
    refine take_yes (i := 5) (v := ?_) rfl (by kernel_rfl) (by kernel_rfl) (by kernel_rfl) (fun _ _ _ h => h) (by rfl) (fun u hSu => ?_) hHeld ?_
    rotate_left
    · ((try dsimp only at hSu); go_simp) <;> with_reducible rfl
    try simp only [Act.put, List.setIfInBounds_toArray, List.set_cons_zero, List.set_cons_succ]
    refine take_yes (i := 6) (v := ?_) rfl (by kernel_rfl) (by kernel_rfl) (by kernel_rfl) (fun _ _ _ h => h) (by rfl) (fun u hSu => ?_) hHeld ?_
    rotate_left
    · ((try dsimp only at hSu); go_simp) <;> with_reducible rfl
    try simp only [Act.put, List.setIfInBounds_toArray, List.set_cons_zero, List.set_cons_succ]
    refine take_yes (i := 7) (v := ?_) rfl (by kernel_rfl) (by kernel_rfl) (by kernel_rfl) (fun _ _ _ h => h) (by rfl) (fun u hSu => ?_) hHeld ?_
    rotate_left
    · ((try dsimp only at hSu); go_simp) <;> with_reducible rfl
    try simp only [Act.put, List.setIfInBounds_toArray, List.set_cons_zero, List.set_cons_succ]
    refine take_yes (i := 8) (v := ?_) rfl (by kernel_rfl) (by kernel_rfl) (by kernel_rfl) (fun _ _ _ h => h) (by rfl) (fun u hSu => ?_) hHeld ?_
    rotate_left
    · ((try dsimp only at hSu); go_simp) <;> with_reducible rfl
    try simp only [Act.put, List.setIfInBounds_toArray, List.set_cons_zero, List.set_cons_succ]
    refine take_yes (i := 9) (v := ?_) rfl (by kernel_rfl) (by kernel_rfl) (by kernel_rfl) (fun _ _ _ h => h) (by rfl) (fun u hSu => ?_) hHeld ?_
    rotate_left
    · ((try dsimp only at hSu); go_simp) <;> with_reducible rfl
    try simp only [Act.put, List.setIfInBounds_toArray, List.set_cons_zero, List.set_cons_succ]
    refine take_yes (i := 10) (v := ?_) rfl (by kernel_rfl) (by kernel_rfl) (by kernel_rfl) (fun _ _ _ h => h) (by rfl) (fun u hSu => ?_) hHeld ?_
    rotate_left
    · ((try dsimp only at hSu); go_simp) <;> with_reducible rfl
    try simp only [Act.put, List.setIfInBounds_toArray, List.set_cons_zero, List.set_cons_succ]
    refine take_yes (i := 11) (v := ?_) rfl (by kernel_rfl) (by kernel_rfl) (by kernel_rfl) (fun _ _ _ h => h) (by rfl) (fun u hSu => ?_) hHeld ?_
    rotate_left
    · ((try dsimp only at hSu); go_simp) <;> with_reducible rfl
    try simp only [Act.put, List.setIfInBounds_toArray, List.set_cons_zero, List.set_cons_succ]
    refine take_yes (i := 12) (v := ?_) rfl (by kernel_rfl) (by kernel_rfl) (by kernel_rfl) (fun _ _ _ h => h) (by rfl) (fun u hSu => ?_) hHeld ?_
    rotate_left
    · ((try dsimp only at hSu); go_simp) <;> with_reducible rfl
    try simp only [Act.put, List.setIfInBounds_toArray, List.set_cons_zero, List.set_cons_succ]
    refine take_yes (i := 13) (v := ?_) rfl (by kernel_rfl) (by kernel_rfl) (by kernel_rfl) (fun _ _ _ h => h) (by rfl) (fun u hSu => ?_) hHeld ?_
    rotate_left
    · ((try dsimp only at hSu); go_simp) <;> with_reducible rfl
    try simp only [Act.put, List.setIfInBounds_toArray, List.set_cons_zero, List.set_cons_succ]
    refine take_yes (i := 15) (v := ?_) rfl (by kernel_rfl) (by kernel_rfl) (by kernel_rfl) (fun _ _ _ h => h) (by rfl) (fun u hSu => ?_) hHeld ?_
    rotate_left
    · ((try dsimp only at hSu); go_simp) <;> with_reducible rfl
    try simp only [Act.put, List.setIfInBounds_toArray, List.set_cons_zero, List.set_cons_succ]
    refine take_yes (i := 16) (v := ?_) rfl (by kernel_rfl) (by kernel_rfl) (by kernel_rfl) (fun _ _ _ h => h) (by rfl) (fun u hSu => ?_) hHeld ?_
    rotate_left
    · ((try dsimp only at hSu); go_simp) <;> with_reducible rfl
    try simp only [Act.put, List.setIfInBounds_toArray, List.set_cons_zero, List.set_cons_succ]
    refine take_one (i := 14) rfl (by kernel_rfl) (fun K hK => ?_)
    go_simp
    refine (stCheck_any p s _ _ n2 ((unhide HP5).kept j2) ((unhide HTA).kept j2) ((unhide HK5).kept j2)).mono ?_
    rintro _ n3 ⟨rfl, hq3⟩
    have j3 : Kept w5 n3 := Kept.trans j2 hq3
    refine hK.out _ _ ((unhide HYS) _ j3) (fun hHeld => ?_)
    clear hK K
    try simp only [Act.put, List.setIfInBounds_toArray, List.set_cons_zero, List.set_cons_succ]
    refine take_one (i := 17) rfl (by kernel_rfl) (fun K hK => ?_)
    go_simp
    refine (stateError_any p _ _ s n3 ((unhide HP5).kept j3) ((unhide HTA).kept j3)).mono ?_
    rintro _ n4 ⟨rfl, hq4⟩
    have j4 : Kept w5 n4 := Kept.trans j3 hq4
    refine hK.out _ _ ((unhide HYS) _ j4) (fun hHeld => ?_)
    clear hK K
    try simp only [Act.put, List.setIfInBounds_toArray, List.set_cons_zero, List.set_cons_succ]
    refine take_yes (i := 18) (v := ?_) rfl (by kernel_rfl) (by kernel_rfl) (by kernel_rfl) (fun _ _ _ h => h) (by rfl) (fun u hSu => ?_) hHeld ?_
    rotate_left
    · ((try dsimp only at hSu); go_simp) <;> with_reducible rfl
    try simp only [Act.put, List.setIfInBounds_toArray, List.set_cons_zero, List.set_cons_succ]
    refine take_yes (i := 19) (v := ?_) rfl (by kernel_rfl) (by kernel_rfl) (by kernel_rfl) (fun _ _ _ h => h) (by rfl) (fun u hSu => ?_) hHeld ?_
    rotate_left
    · ((try dsimp only at hSu); go_simp) <;> with_reducible rfl
    try simp only [Act.put, List.setIfInBounds_toArray, List.set_cons_zero, List.set_cons_succ]
    refine take_yes (i := 20) (v := ?_) rfl (by kernel_rfl) (by kernel_rfl) (by kernel_rfl) (fun _ _ _ h => h) (by rfl) (fun u hSu => ?_) hHeld ?_
    rotate_left
    · ((try dsimp only at hSu); go_simp) <;> with_reducible rfl
    try simp only [Act.put, List.setIfInBounds_toArray, List.set_cons_zero, List.set_cons_succ]
    refine wpAnyH_done (by kernel_rfl) ?_ _
    have HFIN := hide (Kept.trans (unhide H5) j4)
    clear hHeld
    go_wp2
    go_ret
    exact ⟨by simp, unhide HFIN⟩
  · have hsb : sB = St.zero := by rw [← unhide HSB, if_neg hz]
    subst hsb
    have hbz : (progS p == 0) = false := beq_eq_false_iff_ne.2 hz
    clear hz
    go_upto_region 6 with fail
    generalize hw5 : w4.alloc (.cells #[.slice none 0 0, .int .i64 0, .slice none 0 0] 54) = w5
    have L8 : w5.heap[w4.heap.size]? = some (.cells #[.slice none 0 0, .int .i64 0, .slice none 0 0] 54) := by rw [← hw5]; exact lays_new rfl
    have hk45 : Kept w4 w5 := by rw [← hw5]; exact (Kept.refl w4).alloc _
    have hst8 : StAt w5 (.agg #[.slice none 0 0, .int .i64 0, .slice none 0 0]) St.zero := zero_at w5
    have LA5 := lays_kept hk45 (unhide HLA4)
    have L55 := lays_kept hk45 (unhide HL54)
    have HT55 := hide ((unhide HT54).kept hk45)
    have H5 := hide ((unhide H4).trans hk45)
    clear hw5 hk45
    generalize w4.heap.size = B8 at L8 ⊢
    have HT8 := hide hst8
    have HTA := hide ((unhide HS).kept (unhide H5))
    have m0 := cell_lays LA5 0
    have m1 := cell_lays LA5 1
    have m2 := cell_lays LA5 2
    have m3 := cell_lays L55 0
    have m4 := cell_lays L55 1
    have m5 := cell_lays L55 2
    have m6 := cell_lays L8 0
    have m7 := cell_lays L8 1
    have m8 := cell_lays L8 2
    have HYS : Hid (∀ u, Kept w5 u → u.cell? ⟨A, 0, none⟩ = some (.slice pFA s.fibers.length qFA) ∧ u.cell? ⟨A, 1, none⟩ = some (.int .i64 s.now) ∧ u.cell? ⟨A, 2, none⟩ = some (.slice pOA s.out.length qOA) ∧ u.cell? ⟨B5, 0, none⟩ = some (.slice pF5 St.zero.fibers.length qF5) ∧ u.cell? ⟨B5, 1, none⟩ = some (.int .i64 St.zero.now) ∧ u.cell? ⟨B5, 2, none⟩ = some (.slice pO5 St.zero.out.length qO5) ∧ u.cell? ⟨B8, 0, none⟩ = some (.slice none 0 0) ∧ u.cell? ⟨B8, 1, none⟩ = some (.int .i64 0) ∧ u.cell? ⟨B8, 2, none⟩ = some (.slice none 0 0)) := hide (fun u hu => ⟨hu.cell m0, hu.cell m1, hu.cell m2, hu.cell m3, hu.cell m4, hu.cell m5, hu.cell m6, hu.cell m7, hu.cell m8⟩)
    have HK5 := hide ((unhide HK).kept (unhide H5))
    have HP5 := hide ((unhide HP).kept (unhide H5))
    have hpe : (progS p == progS p) = true := by simp
    clear m0 m1 m2 m3 m4 m5 m6 m7 m8 LA5 L55 L8 hst8
    refine wp_region_held_drew (S := (fun u => u.cell? ⟨A, 0, none⟩ = some (.slice pFA s.fibers.length qFA) ∧ u.cell? ⟨A, 1, none⟩ = some (.int .i64 s.now) ∧ u.cell? ⟨A, 2, none⟩ = some (.slice pOA s.out.length qOA) ∧ u.cell? ⟨B5, 0, none⟩ = some (.slice pF5 St.zero.fibers.length qF5) ∧ u.cell? ⟨B5, 1, none⟩ = some (.int .i64 St.zero.now) ∧ u.cell? ⟨B5, 2, none⟩ = some (.slice pO5 St.zero.out.length qO5) ∧ u.cell? ⟨B8, 0, none⟩ = some (.slice none 0 0) ∧ u.cell? ⟨B8, 1, none⟩ = some (.int .i64 0) ∧ u.cell? ⟨B8, 2, none⟩ = some (.slice none 0 0))) (by kernel_rfl) ((unhide HYS) _ (Kept.drew (Kept.refl _))) (fun hHeld => ?_)
    refine take_one (i := 0) rfl (by kernel_rfl) (fun K hK => ?_)
    go_simp
    refine (stateBegun_any _ ((unhide HK5).kept (Kept.drew (Kept.refl _)))).mono ?_
    rintro _ n1 ⟨rfl, hq1⟩
    have j1 : Kept w5 n1 := Kept.trans (Kept.drew (Kept.refl w5)) hq1
    refine hK.out _ _ ((unhide HYS) _ j1) (fun hHeld => ?_)
    clear hK K
    try simp only [Act.put, List.setIfInBounds_toArray, List.set_cons_zero, List.set_cons_succ]
    refine take_yes (i := 1) (v := ?_) rfl (by kernel_rfl) (by kernel_rfl) (by kernel_rfl) (fun _ _ _ h => h) (by rfl) (fun u hSu => ?_) hHeld ?_
    rotate_left
    · ((try dsimp only at hSu); go_simp) <;> with_reducible rfl
    try simp only [Act.put, List.setIfInBounds_toArray, List.set_cons_zero, List.set_cons_succ]
    refine take_yes (i := 2) (v := ?_) rfl (by kernel_rfl) (by kernel_rfl) (by kernel_rfl) (fun _ _ _ h => h) (by rfl) (fun u hSu => ?_) hHeld ?_
    rotate_left
    · ((try dsimp only at hSu); go_simp) <;> with_reducible rfl
    try simp only [Act.put, List.setIfInBounds_toArray, List.set_cons_zero, List.set_cons_succ]
    refine take_yes (i := 3) (v := ?_) rfl (by kernel_rfl) (by kernel_rfl) (by kernel_rfl) (fun _ _ _ h => h) (by rfl) (fun u hSu => ?_) hHeld ?_
    rotate_left
    · ((try dsimp only at hSu); go_simp) <;> with_reducible rfl
    try simp only [Act.put, List.setIfInBounds_toArray, List.set_cons_zero, List.set_cons_succ]
    refine take_one (i := 4) rfl (by kernel_rfl) (fun K hK => ?_)
    go_simp
    refine (sameStates_same St.zero _ _ n1 ((unhide HT55).kept j1) ((unhide HT8).kept j1)).mono ?_
    rintro _ n2 ⟨rfl, hq2⟩
    have j2 : Kept w5 n2 := Kept.trans j1 hq2
    refine hK.out _ _ ((unhide HYS) _ j2) (fun hHeld => ?_)
    clear hK K
    try simp only [Act.put, List.setIfInBounds_toArray, List.set_cons_zero, List.set_cons_succ]
    refine take_yes (i := 5) (v := ?_) rfl (by kernel_rfl) (by kernel_rfl) (by kernel_rfl) (fun _ _ _ h => h) (by rfl) (fun u hSu => ?_) hHeld ?_
    rotate_left
    · ((try dsimp only at hSu); go_simp) <;> with_reducible rfl
    try simp only [Act.put, List.setIfInBounds_toArray, List.set_cons_zero, List.set_cons_succ]
    refine take_yes (i := 6) (v := ?_) rfl (by kernel_rfl) (by kernel_rfl) (by kernel_rfl) (fun _ _ _ h => h) (by rfl) (fun u hSu => ?_) hHeld ?_
    rotate_left
    · ((try dsimp only at hSu); go_simp) <;> with_reducible rfl
    try simp only [Act.put, List.setIfInBounds_toArray, List.set_cons_zero, List.set_cons_succ]
    refine take_yes (i := 7) (v := ?_) rfl (by kernel_rfl) (by kernel_rfl) (by kernel_rfl) (fun _ _ _ h => h) (by rfl) (fun u hSu => ?_) hHeld ?_
    rotate_left
    · ((try dsimp only at hSu); go_simp) <;> with_reducible rfl
    try simp only [Act.put, List.setIfInBounds_toArray, List.set_cons_zero, List.set_cons_succ]
    refine take_yes (i := 8) (v := ?_) rfl (by kernel_rfl) (by kernel_rfl) (by kernel_rfl) (fun _ _ _ h => h) (by rfl) (fun u hSu => ?_) hHeld ?_
    rotate_left
    · ((try dsimp only at hSu); go_simp) <;> with_reducible rfl
    try simp only [Act.put, List.setIfInBounds_toArray, List.set_cons_zero, List.set_cons_succ]
    refine take_yes (i := 9) (v := ?_) rfl (by kernel_rfl) (by kernel_rfl) (by kernel_rfl) (fun _ _ _ h => h) (by rfl) (fun u hSu => ?_) hHeld ?_
    rotate_left
    · ((try dsimp only at hSu); go_simp) <;> with_reducible rfl
    try simp only [Act.put, List.setIfInBounds_toArray, List.set_cons_zero, List.set_cons_succ]
    refine take_yes (i := 10) (v := ?_) rfl (by kernel_rfl) (by kernel_rfl) (by kernel_rfl) (fun _ _ _ h => h) (by rfl) (fun u hSu => ?_) hHeld ?_
    rotate_left
    · ((try dsimp only at hSu); go_simp) <;> with_reducible rfl
    try simp only [Act.put, List.setIfInBounds_toArray, List.set_cons_zero, List.set_cons_succ]
    refine take_yes (i := 11) (v := ?_) rfl (by kernel_rfl) (by kernel_rfl) (by kernel_rfl) (fun _ _ _ h => h) (by rfl) (fun u hSu => ?_) hHeld ?_
    rotate_left
    · ((try dsimp only at hSu); go_simp) <;> with_reducible rfl
    try simp only [Act.put, List.setIfInBounds_toArray, List.set_cons_zero, List.set_cons_succ]
    refine take_yes (i := 12) (v := ?_) rfl (by kernel_rfl) (by kernel_rfl) (by kernel_rfl) (fun _ _ _ h => h) (by rfl) (fun u hSu => ?_) hHeld ?_
    rotate_left
    · ((try dsimp only at hSu); go_simp) <;> with_reducible rfl
    try simp only [Act.put, List.setIfInBounds_toArray, List.set_cons_zero, List.set_cons_succ]
    refine take_yes (i := 13) (v := ?_) rfl (by kernel_rfl) (by kernel_rfl) (by kernel_rfl) (fun _ _ _ h => h) (by rfl) (fun u hSu => ?_) hHeld ?_
    rotate_left
    · ((try dsimp only at hSu); go_simp) <;> with_reducible rfl
    try simp only [Act.put, List.setIfInBounds_toArray, List.set_cons_zero, List.set_cons_succ]
    refine take_yes (i := 15) (v := ?_) rfl (by kernel_rfl) (by kernel_rfl) (by kernel_rfl) (fun _ _ _ h => h) (by rfl) (fun u hSu => ?_) hHeld ?_
    rotate_left
    · ((try dsimp only at hSu); go_simp) <;> with_reducible rfl
    try simp only [Act.put, List.setIfInBounds_toArray, List.set_cons_zero, List.set_cons_succ]
    refine take_yes (i := 16) (v := ?_) rfl (by kernel_rfl) (by kernel_rfl) (by kernel_rfl) (fun _ _ _ h => h) (by rfl) (fun u hSu => ?_) hHeld ?_
    rotate_left
    · ((try dsimp only at hSu); go_simp) <;> with_reducible rfl
    try simp only [Act.put, List.setIfInBounds_toArray, List.set_cons_zero, List.set_cons_succ]
    refine take_one (i := 14) rfl (by kernel_rfl) (fun K hK => ?_)
    go_simp
    refine (stCheck_any p s _ _ n2 ((unhide HP5).kept j2) ((unhide HTA).kept j2) ((unhide HK5).kept j2)).mono ?_
    rintro _ n3 ⟨rfl, hq3⟩
    have j3 : Kept w5 n3 := Kept.trans j2 hq3
    refine hK.out _ _ ((unhide HYS) _ j3) (fun hHeld => ?_)
    clear hK K
    try simp only [Act.put, List.setIfInBounds_toArray, List.set_cons_zero, List.set_cons_succ]
    refine take_one (i := 17) rfl (by kernel_rfl) (fun K hK => ?_)
    go_simp
    refine (stateError_any p _ _ s n3 ((unhide HP5).kept j3) ((unhide HTA).kept j3)).mono ?_
    rintro _ n4 ⟨rfl, hq4⟩
    have j4 : Kept w5 n4 := Kept.trans j3 hq4
    refine hK.out _ _ ((unhide HYS) _ j4) (fun hHeld => ?_)
    clear hK K
    try simp only [Act.put, List.setIfInBounds_toArray, List.set_cons_zero, List.set_cons_succ]
    refine take_yes (i := 18) (v := ?_) rfl (by kernel_rfl) (by kernel_rfl) (by kernel_rfl) (fun _ _ _ h => h) (by rfl) (fun u hSu => ?_) hHeld ?_
    rotate_left
    · ((try dsimp only at hSu); go_simp) <;> with_reducible rfl
    try simp only [Act.put, List.setIfInBounds_toArray, List.set_cons_zero, List.set_cons_succ]
    refine take_yes (i := 19) (v := ?_) rfl (by kernel_rfl) (by kernel_rfl) (by kernel_rfl) (fun _ _ _ h => h) (by rfl) (fun u hSu => ?_) hHeld ?_
    rotate_left
    · ((try dsimp only at hSu); go_simp) <;> with_reducible rfl
    try simp only [Act.put, List.setIfInBounds_toArray, List.set_cons_zero, List.set_cons_succ]
    refine take_yes (i := 20) (v := ?_) rfl (by kernel_rfl) (by kernel_rfl) (by kernel_rfl) (fun _ _ _ h => h) (by rfl) (fun u hSu => ?_) hHeld ?_
    rotate_left
    · ((try dsimp only at hSu); go_simp) <;> with_reducible rfl
    try simp only [Act.put, List.setIfInBounds_toArray, List.set_cons_zero, List.set_cons_succ]
    refine wpAnyH_done (by kernel_rfl) ?_ _
    have HFIN := hide (Kept.trans (unhide H5) j4)
    clear hHeld
    go_wp2
    go_ret
    exact ⟨by simp, unhide HFIN⟩

set_option maxRecDepth 100000 in
theorem stateTells_contract (H : Type) (enc : TypeId × Value → H) (W : World) (base : Nat) (args : Array Value) (ds gs : List (DataW H)) (before : List MemPlace)
    (hval : ∀ (j : Nat) t v, Tryd.f8.params[j]? = some t → args[j]? = some v → Value.okWide Tryd.prog W .any base t v)
    (hW : DataW.Whole enc Tryd.prog Tryd.f8.params.toList Rows.stateTellsSpec.vars false W args.toList ds gs before)
    (hsz : (DataW.weightsEach Tryd.prog (Tryd.f8.params.toList ++ (OpenSpec.ofChange Rows.stateTellsSpec).bare.plain.varTypes Tryd.prog) (ds ++ gs)).all (· ≤ reachBytes) = true)
    (hL : laidMetH Tryd.prog Rows.stateTellsRow.laid W) :
    Calls Tryd.prog 8 args W fun e W' => ∃ v, e = .returned v ∧ Rows.stateTellsSpec.post enc Tryd.prog Tryd.f8 false true false false W args v W' := by
  have hW' := hW
  obtain ⟨p, q, hA0, hV, rfl, hfz, hnd⟩ := hW
  have hA : DataW.TrodAll enc Tryd.prog W 0 (fun _ => true) true Tryd.f8.params.toList args.toList ds p := hA0
  have hlt : ∀ x ∈ p, x.block < W.heap.size := fun x hx => by simpa using hW'.lt x (by simp [hx])
  have hA1 := hA
  rw [Tryd.params8] at hA hval hsz
  obtain ⟨v0, vs0, d0, ds0, p0, q0, hargs, rfl, rfl, h0, r0⟩ := trodAll_cons hA
  obtain ⟨v1, vs1, d1, ds1, p1, q1, rfl, rfl, rfl, h1, r1⟩ := trodAll_cons r0
  obtain ⟨rfl, rfl, rfl⟩ := trodAll_nil r1
  obtain rfl : args = #[v0, v1] := by cases args; simp_all
  obtain ⟨rfl, rfl⟩ := trodVars_none hV
  obtain ⟨pl0, hpl0⟩ : ∃ pl, ProgAt W v0 pl := by
    obtain ⟨oa, len, cap, rfl⟩ := okWide_slice Tryd.underlying22 (hval 0 22 v0 rfl rfl)
    obtain ⟨fuel, hf⟩ := h0
    exact open_prog hf (fun n hn => of_decide_eq_true (List.all_eq_true.1 hsz n (DataW.weights_mem_each (j := 0) rfl rfl n hn)))
  obtain ⟨st1, hst1⟩ : ∃ st, StAt W v1 st := by
    obtain ⟨fuel, hf⟩ := h1
    obtain ⟨cs, rfl, hc⟩ := okWide_struct Tryd.underlying54 (hval 1 54 v1 rfl rfl)
    have := open_state hf (fun n hn => of_decide_eq_true (List.all_eq_true.1 hsz n (DataW.weights_mem_each (j := 1) rfl rfl n hn)))
    cases cs
    simpa [Value.cells] using this
  refine (stateTells_walk pl0 v0 st1 v1 W hpl0 hst1 (kinds_of_laid hL)).mono fun e W' ⟨he, hg⟩ => ?_
  subst he
  refine ⟨_, rfl, _, _, _, [], _, [], hW', trodAll_mk1 (shut_bool Tryd.underlying4 _), trodAll_below hg ?_ hA1 hlt, rfl, hg.frame _, fun h => by cases h⟩
  intro t ht
  rw [Tryd.params8] at ht
  simp only [List.mem_cons, List.not_mem_nil, or_false] at ht
  rcases ht with rfl | rfl
  · exact ⟨by kernel_rfl, of_decide_eq_true (by kernel_rfl)⟩
  · exact ⟨by kernel_rfl, of_decide_eq_true (by kernel_rfl)⟩

set_option maxRecDepth 100000 in
theorem stateTells_laid_met (os : Os) : laidMet Tryd.prog Rows.stateTellsRow.laid ((({ World.holding Tryd.prog os ⟨#[], #[], []⟩ with heap := (World.holding Tryd.prog os ⟨#[], #[], []⟩).heap.modify 0 fun | .cells _ t frozen => .cells #[.int .i64 0, .int .i64 1, .int .i64 1, .int .i64 1, .int .i64 0, .int .i64 0, .int .i64 0, .int .i64 1, .int .i64 2, .int .i64 1, .int .i64 0, .int .i64 2, .int .i64 2, .int .i64 1, .int .i64 0, .int .i64 2, .int .i64 1, .int .i64 0, .int .i64 2, .int .i64 1, .int .i64 0, .int .i64 2, .int .i64 1, .int .i64 0, .int .i64 2, .int .i64 1, .int .i64 0, .int .i64 0, .int .i64 0, .int .i64 3, .int .i64 1, .int .i64 0, .int .i64 3, .int .i64 0, .int .i64 1, .int .i64 4, .int .i64 1, .int .i64 0, .int .i64 0, .int .i64 0, .int .i64 1, .int .i64 4, .int .i64 2, .int .i64 1, .int .i64 0, .int .i64 1, .int .i64 1, .int .i64 0, .int .i64 1, .int .i64 0, .int .i64 0] t frozen | o => o } : World)).forCall (fun _ _ => 0) ⟨#[], #[.slice none 0 0, .agg #[.slice none 0 0, .int .i64 0, .slice none 0 0]], []⟩).memory :=
  laidMet_of_run' 8 (by kernel_rfl) (by kernel_rfl)
set_option maxRecDepth 100000 in
theorem stateTells_reads (os : Os) {H : Type} (enc : TypeId × Value → H) : ∃ places, DataW.whole enc Tryd.prog ((({ World.holding Tryd.prog os ⟨#[], #[], []⟩ with heap := (World.holding Tryd.prog os ⟨#[], #[], []⟩).heap.modify 0 fun | .cells _ t frozen => .cells #[.int .i64 0, .int .i64 1, .int .i64 1, .int .i64 1, .int .i64 0, .int .i64 0, .int .i64 0, .int .i64 1, .int .i64 2, .int .i64 1, .int .i64 0, .int .i64 2, .int .i64 2, .int .i64 1, .int .i64 0, .int .i64 2, .int .i64 1, .int .i64 0, .int .i64 2, .int .i64 1, .int .i64 0, .int .i64 2, .int .i64 1, .int .i64 0, .int .i64 2, .int .i64 1, .int .i64 0, .int .i64 0, .int .i64 0, .int .i64 3, .int .i64 1, .int .i64 0, .int .i64 3, .int .i64 0, .int .i64 1, .int .i64 4, .int .i64 1, .int .i64 0, .int .i64 0, .int .i64 0, .int .i64 1, .int .i64 4, .int .i64 2, .int .i64 1, .int .i64 0, .int .i64 1, .int .i64 1, .int .i64 0, .int .i64 1, .int .i64 0, .int .i64 0] t frozen | o => o } : World)).forCall (fun _ _ => 0) ⟨#[], #[.slice none 0 0, .agg #[.slice none 0 0, .int .i64 0, .slice none 0 0]], []⟩).memory Tryd.f8.params.toList Rows.stateTellsSpec.vars false (#[.slice none 0 0, .agg #[.slice none 0 0, .int .i64 0, .slice none 0 0]] : Array Value).toList 8 = some ([.nil, .agg [.nil, .lit (.int .i64 0), .nil]], [], places) :=
  ⟨[], by kernel_rfl⟩

set_option maxRecDepth 100000 in
theorem stateTells_lifted (os : Os) (started : os.Started) (H : Type) (enc : TypeId × Value → H) (F : Stop.Interp) :
    ReturnsInHanded {} Tryd.checked os 8 .any ((OpenSpec.ofChange Rows.stateTellsSpec).preRow enc Tryd.prog Tryd.f8 Rows.stateTellsRow.domain false Rows.stateTellsRow.laid) (((OpenSpec.ofChange Rows.stateTellsSpec).at F).post enc Tryd.prog Tryd.f8 false true false false) := by
  obtain ⟨places, hx⟩ := stateTells_reads os enc
  refine returnsInHanded_of_row (C := Tryd.checked) (s := OpenSpec.ofChange Rows.stateTellsSpec) own started (by kernel_rfl) Tryd.func8
    (witness_row_at (enc := enc) (C := Tryd.checked) false ({ World.holding Tryd.prog os ⟨#[], #[], []⟩ with heap := (World.holding Tryd.prog os ⟨#[], #[], []⟩).heap.modify 0 fun | .cells _ t frozen => .cells #[.int .i64 0, .int .i64 1, .int .i64 1, .int .i64 1, .int .i64 0, .int .i64 0, .int .i64 0, .int .i64 1, .int .i64 2, .int .i64 1, .int .i64 0, .int .i64 2, .int .i64 2, .int .i64 1, .int .i64 0, .int .i64 2, .int .i64 1, .int .i64 0, .int .i64 2, .int .i64 1, .int .i64 0, .int .i64 2, .int .i64 1, .int .i64 0, .int .i64 2, .int .i64 1, .int .i64 0, .int .i64 0, .int .i64 0, .int .i64 3, .int .i64 1, .int .i64 0, .int .i64 3, .int .i64 0, .int .i64 1, .int .i64 4, .int .i64 1, .int .i64 0, .int .i64 0, .int .i64 0, .int .i64 1, .int .i64 4, .int .i64 2, .int .i64 1, .int .i64 0, .int .i64 1, .int .i64 1, .int .i64 0, .int .i64 1, .int .i64 0, .int .i64 0] t frozen | o => o } : World) #[.slice none 0 0, .agg #[.slice none 0 0, .int .i64 0, .slice none 0 0]] rfl (by kernel_rfl) (by kernel_rfl) (by kernel_rfl)
      (OpenSpec.preRow_of_cond 8 hx (by kernel_rfl) (fun k hk => by cases hk) (by kernel_rfl) (stateTells_laid_met os))) ?_
  intro W base args ds gs before hval hW _ _ hsz hL _ _
  exact stateTells_contract H enc W base args ds gs before hval hW hsz hL

set_option maxRecDepth 100000 in
theorem stateTells_said : Rows.StateTellsSaid :=
  OpenClaim.holds_of_cond 8 Tryd.f8 rfl rfl rfl rfl rfl rfl rfl ⟨rfl, rfl, rfl, rfl, rfl⟩ rfl rfl rfl rfl rfl (by kernel_rfl) Tryd.func8 (by kernel_rfl)
    (of_decide_eq_true (by kernel_rfl)) (by unfold Func.isWrapper; first | (rw [if_pos (by decide +kernel)]; kernel_rfl) | (rw [if_neg (by decide +kernel)]; exact ⟨rfl, rfl⟩))
    (fun os started H enc _ F => by rw [OpenClaim.pre_eq_preRow]; exact stateTells_lifted os started H enc F)

set_option maxRecDepth 100000 in
theorem stateTells_plain (f : FuncId) (fn : Func) (hf : Tryd.pinned.checked.prog.funcNamed "glebe/glebelaw.StateTells" = some f) (hfn : Tryd.pinned.checked.prog.funcs[f]? = some fn) :
    true = Tryd.pinned.checked.prog.looks [] ∧ ∀ (j : Nat) t, fn.params[j]? = some t → Tryd.pinned.checked.prog.wantsStandIn t = false := by
  obtain rfl : f = 8 := Option.some.inj ((show Tryd.prog.funcNamed "glebe/glebelaw.StateTells" = some 8 by kernel_rfl).symm.trans hf) |>.symm
  obtain rfl : fn = Tryd.f8 := (Option.some.inj (Tryd.func8.symm.trans hfn)).symm
  refine ⟨by kernel_rfl, fun j t ht => ?_⟩
  rw [Tryd.params8] at ht
  have hm := Array.mem_of_getElem? ht
  simp only [List.mem_toArray, List.mem_cons, List.not_mem_nil, or_false] at hm
  rcases hm with rfl | rfl
  · exact (show Tryd.prog.wantsStandIn 22 = false by kernel_rfl)
  · exact (show Tryd.prog.wantsStandIn 54 = false by kernel_rfl)

set_option maxRecDepth 100000 in
theorem stateTells_card : Rows.StateTellsCardSaid :=
  Claim7.holds_tied_plain_at .later [] _ _ _ _ stateTells_said (fun _ h => by cases h) (by kernel_rfl) (fun _ h => by cases h) stateTells_row_tie rfl ⟨rfl, rfl⟩ (by kernel_rfl) rfl stateTells_plain (by kernel_rfl)
end Go.Proofs.YtohlefnljgkdcabDoor

