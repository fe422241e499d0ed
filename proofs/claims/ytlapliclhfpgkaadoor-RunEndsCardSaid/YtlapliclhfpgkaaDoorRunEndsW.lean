/-
  The statement RunEnds: its walk, of the contracts of what it calls.
-/
import Derived.Test.YtlapliclhfpgkaaDoorStX
namespace Go.Proofs.YtlapliclhfpgkaaDoor
open Go.RowKit

set_option maxRecDepth 100000 in
set_option maxHeartbeats 8000000 in
theorem runEnds_w (vp : Value) (c : Int) (w : World) (m : Nat) (er er2 se : Int) (rs ss : St) (steps : Nat) (err : Int) (oa oo : Option Addr) (N M cap co : Nat) (nn : Int)
    (HCH : Hid (∀ u, Calls Tryd.prog 11 #[.int .i64 c, .int .i64 501] u fun e w' => e = .returned (.int .i64 m) ∧ w' = u))
    (HR : Hid (∀ u, Kept w u → GivesSt 13 #[vp, .agg #[.slice oa N cap, .int .i64 nn, .slice oo M co], .int .i64 m] u rs [.int .i64 steps, .int .i64 err]))
    (HC1 : Hid (∀ u, Kept w u → Calls Tryd.prog 14 #[vp, .agg #[.slice oa N cap, .int .i64 nn, .slice oo M co]] u fun e w' => e = .returned (.int .i64 er) ∧ Kept u w'))
    (HC2 : Hid (∀ u v, Kept w u → StAt u v rs → Calls Tryd.prog 14 #[vp, v] u fun e w' => e = .returned (.int .i64 er2) ∧ Kept u w'))
    (HDO : Hid (∀ u v, Kept w u → StAt u v rs → GivesSt 18 #[vp, v] u ss [.int .i64 se]))
    (HRB : Hid (∀ u, Kept w u → Calls Tryd.prog 15 #[] u fun e w' => e = .returned (.bool true) ∧ Kept u w'))
    (hgood : er = 0 → er2 = 0 ∧ steps ≤ m ∧ (err ≠ 0 → se = err ∧ steps < m ∧ 0 ≤ rs.now) ∧ (err = 0 → steps = m ∨ (rs.now = -1 ∧ se = 8))) :
    Calls Tryd.prog 6 #[vp, .agg #[.slice oa N cap, .int .i64 nn, .slice oo M co], .int .i64 c] w fun e w' => e = .returned (.bool true) ∧ Kept w w' := by
  have HG := hide hgood
  clear hgood
  go_enter Tryd.func6, Tryd.ntmps6
  go_wp2_with fail
  refine ((unhide HCH) _).mono ?_
  rintro _ w0 ⟨rfl, hw0⟩
  subst hw0
  obtain ⟨k1, l1⟩ := box_st (Kept.refl w) #[.slice oa N cap, .int .i64 nn, .slice oo M co] 35
  generalize w.alloc (.cells #[.slice oa N cap, .int .i64 nn, .slice oo M co] 35) = w1 at *
  generalize w.heap.size = B0 at *
  have a0 := cell_lays l1 0
  have a1 := cell_lays l1 1
  have a2 := cell_lays l1 2
  have HL := hide l1
  have HK := hide k1
  clear l1 k1 HCH
  go_wp2_with fail
  refine ((unhide HR) _ (unhide HK)).mono ?_
  rintro _ w2 ⟨ob, n2, cap2, c2, oc, m2, co2, rfl, hs2, hk2⟩
  replace HL := hide (lays_kept hk2 (unhide HL))
  replace HK := hide ((unhide HK).trans hk2)
  have HS := hide hs2
  have hc2 := (stAt_parts hs2).1
  have HC := hide hc2
  clear hs2 hk2 hc2 HR a0 a1 a2
  have a0 := cell_new (unhide HL) 0
  have a1 := cell_new (unhide HL) 1
  have a2 := cell_new (unhide HL) 2
  go_wp2_with fail
  obtain ⟨k3, l3⟩ := box_st (Kept.refl w2) #[.slice ob n2 cap2, .int .i64 c2, .slice oc m2 co2] 35
  generalize w2.alloc (.cells #[.slice ob n2 cap2, .int .i64 c2, .slice oc m2 co2] 35) = w3 at *
  generalize w2.heap.size = B1 at *
  replace HK := hide ((unhide HK).trans k3)
  replace HL := hide (lays_kept k3 (unhide HL))
  replace HS := hide ((unhide HS).kept k3)
  have HT := hide l3
  clear k3 l3 a0 a1 a2
  refine ((unhide HC1) _ (unhide HK)).mono ?_
  rintro _ w4 ⟨rfl, hk4⟩
  replace HK := hide ((unhide HK).trans hk4)
  replace HL := hide (lays_kept hk4 (unhide HL))
  replace HT := hide (lays_kept hk4 (unhide HT))
  replace HS := hide ((unhide HS).kept hk4)
  clear hk4 HC1
  by_cases he : er = 0
  · subst he
    obtain ⟨rfl, h1, h2, h3⟩ := (unhide HG) rfl
    have t0 := cell_lays (unhide HT) 0
    have t1 := cell_lays (unhide HT) 1
    have t2 := cell_lays (unhide HT) 2
    go_wp2_with fail
    refine ((unhide HC2) _ _ (unhide HK) (unhide HS)).mono ?_
    rintro _ w5 ⟨rfl, hk5⟩
    replace HK := hide ((unhide HK).trans hk5)
    replace HT := hide (lays_kept hk5 (unhide HT))
    replace HS := hide ((unhide HS).kept hk5)
    clear hk5 HC2 t0 t1 t2 HL
    have t0 := cell_lays (unhide HT) 0
    have t1 := cell_lays (unhide HT) 1
    have t2 := cell_lays (unhide HT) 2
    have g1 : ¬ ((steps : Int) < 0) := by omega
    have g2 : ¬ ((steps : Int) > (m : Int)) := by omega
    go_wp2_with fail
    refine ((unhide HDO) _ _ (unhide HK) (unhide HS)).mono ?_
    rintro _ w6 ⟨od, n6, cap6, c6, oe, m6, co6, rfl, hs6, hk6⟩
    replace HK := hide ((unhide HK).trans hk6)
    replace HT := hide (lays_kept hk6 (unhide HT))
    clear hk6 hs6 HDO HS t0 t1 t2 g1 g2
    have HH := hide (And.intro h1 (And.intro h2 h3))
    clear h1 h2 h3
    by_cases hz : err = 0
    · subst hz
      go_wp2_with fail
      refine ((unhide HRB) _ ((unhide HK).alloc _)).mono ?_
      rintro _ w7 ⟨rfl, hk7⟩
      replace HT := hide (lays_kept hk7 (lays_alloc (unhide HT) _))
      replace HK := hide (((unhide HK).alloc _).trans hk7)
      clear hk7
      have t1 := cell_lays (unhide HT) 1
      rcases (unhide HH).2.2 trivial with e | ⟨e1, e2⟩
      · subst e
        go_wp2
        go_ret
        exact ⟨rfl, unhide HK⟩
      · have hc : c2 = -1 := (unhide HC).trans e1
        subst hc e2
        by_cases e : (steps : Int) = m
        · have g : ((steps : Int) == (m : Int)) = true := by rw [beq_iff_eq]; exact e
          go_wp2
          go_ret
          exact ⟨rfl, unhide HK⟩
        · have g : ((steps : Int) == (m : Int)) = false := by rw [beq_eq_false_iff_ne]; exact e
          go_wp2
          go_ret
          exact ⟨rfl, unhide HK⟩
    · obtain ⟨rfl, e1, e2⟩ := (unhide HH).2.1 hz
      have hz' : (se != 0) = true := by rw [bne_iff_ne]; exact hz
      have g1 : (steps : Int) < (m : Int) := by omega
      have g2 : (0 : Int) ≤ c2 := by rw [unhide HC]; exact e2
      go_wp2_with fail
      refine ((unhide HRB) _ ((unhide HK).alloc _)).mono ?_
      rintro _ w7 ⟨rfl, hk7⟩
      replace HT := hide (lays_kept hk7 (lays_alloc (unhide HT) _))
      replace HK := hide (((unhide HK).alloc _).trans hk7)
      clear hk7
      have t1 := cell_lays (unhide HT) 1
      go_wp2
      go_ret
      exact ⟨rfl, unhide HK⟩
  · have he' : (er != 0) = true := by rw [bne_iff_ne]; exact he
    go_wp2_with fail
    refine ((unhide HRB) _ (unhide HK)).mono ?_
    rintro _ w5 ⟨rfl, hk5⟩
    replace HK := hide ((unhide HK).trans hk5)
    clear hk5
    go_wp2
    go_ret
    exact ⟨rfl, unhide HK⟩
end Go.Proofs.YtlapliclhfpgkaaDoor
