/-
  The statement RunBegin: its walk.
-/
import Derived.Test.YtlapliclhfpgkaaDoorRB44
import Derived.Test.YtlapliclhfpgkaaDoorRB45
namespace Go.Proofs.YtlapliclhfpgkaaDoor
open Go.RowKit

theorem rn_small {p : List Fn} {s : St} {f : Int} : Small (rnS p s f).1 := by
  have hz : Small St.zero := by unfold Small St.zero; simp
  unfold rnS
  split
  · split
    · rename_i h; exact right_small (run_right _ h)
    · exact hz
  · exact hz

set_option maxRecDepth 100000 in
set_option maxHeartbeats 4000000 in
theorem runBegin_bad (p : List Fn) (vp : Value) (c : Int) (w : World) (hp : ProgAt w vp p) (hkd : KindsAt w) (hw : (Lit.int .i64 c).wf = true) (hz : progS p ≠ 0) :
    Calls Tryd.prog 7 #[vp, .int .i64 c] w fun e w' => e = .returned (.bool true) ∧ Kept w w' := by
  have HCH := hide (choose_any c 501 w hw (by omega) (by omega))
  have hm := chooseS_lt c (n := 501) (by omega)
  generalize chooseS c 501 = m at *
  have HB := hide (stBegin_any p vp w hp hkd)
  have hall : allS p m = ([], 0, progS p) := by unfold allS; rw [if_pos (inB_true (by omega) (by omega)), if_neg hz]
  have HA : Hid (∀ u, Kept w u → Calls Tryd.prog 10 #[vp, .int .i64 m] u (AlPost ([], 0, progS p) u)) := hide (fun u hu => by rw [← hall]; exact runAll_any p vp m u (hp.kept hu) (hkd.kept hu))
  have HRB : Hid (∀ u, Kept w u → Calls Tryd.prog 15 #[] u fun e w' => e = .returned (.bool true) ∧ Kept u w') := hide (fun u hu => runBegun_any u (hkd.kept hu))
  unfold BegPost at HB
  generalize progS p = er at *
  clear hall hp hkd
  go_enter Tryd.func7, Tryd.ntmps7
  go_wp2_with fail
  refine (unhide HCH).mono ?_
  rintro _ w0 ⟨rfl, rfl⟩
  go_wp2_with fail
  refine (unhide HB).mono ?_
  rintro _ w1 ⟨v, rfl, hs, hk1⟩
  obtain ⟨vf, vo, rfl, ⟨oa, cap, rfl, _, _⟩, ⟨oo, co, rfl, _, _⟩⟩ := hs
  generalize (if er = 0 then beginS p else St.zero) = s0 at *
  generalize s0.fibers.length = N at *
  generalize s0.out.length = M at *
  generalize s0.now = nn at *
  have HK1 := hide hk1
  clear hk1 HB HCH
  go_wp2_with fail
  refine ((unhide HA) _ ((unhide HK1).alloc _)).mono ?_
  rintro _ w2 ⟨v2, rfl, hr2, hk2⟩
  obtain ⟨o2, c2, rfl, _⟩ := row_slice hr2
  have HK2 := hide (((unhide HK1).alloc _).trans hk2)
  clear hr2 hk2 HA HK1
  go_wp2_with fail
  refine ((unhide HRB) _ (unhide HK2)).mono ?_
  rintro _ w3 ⟨rfl, hk3⟩
  have HK3 := hide ((unhide HK2).trans hk3)
  clear hk3 HK2 HRB
  go_wp2
  go_ret
  exact ⟨rfl, unhide HK3⟩

set_option maxRecDepth 100000 in
set_option maxHeartbeats 8000000 in
theorem runBegin_go (p : List Fn) (vp : Value) (c : Int) (w : World) (hp : ProgAt w vp p) (hkd : KindsAt w) (hw : (Lit.int .i64 c).wf = true) (hz : progS p = 0) :
    Calls Tryd.prog 7 #[vp, .int .i64 c] w fun e w' => e = .returned (.bool true) ∧ Kept w w' := by
  have HCH := hide (choose_any c 501 w hw (by omega) (by omega))
  have hm := chooseS_lt c (n := 501) (by omega)
  generalize chooseS c 501 = m at *
  have hall : allS p m = ((rnS p (beginS p) m).1.out, (rnS p (beginS p) m).2.1, (rnS p (beginS p) m).2.2) := by unfold allS; rw [if_pos (inB_true (by omega) (by omega)), if_pos hz]
  have hzero : rnS p (beginS p) 0 = (beginS p, 0, 0) := by unfold rnS; rw [if_pos (by decide), if_pos (begin_right hz)]; rfl
  have hsm : Small (rnS p (beginS p) m).1 := rn_small
  have hs0 : Small (beginS p) := right_small (begin_right hz)
  have HB : Hid (Calls Tryd.prog 19 #[vp] w fun e w' => ∃ v, e = .returned (.tuple #[v, .int .i64 0]) ∧ StAt w' v (beginS p) ∧ Kept w w') := hide ((stBegin_any p vp w hp hkd).mono (by
    rintro e w' ⟨v, rfl, hs, hk⟩
    rw [if_pos hz] at hs
    exact ⟨v, by rw [hz], hs, hk⟩))
  have HA : Hid (∀ u, Kept w u → Calls Tryd.prog 10 #[vp, .int .i64 m] u (AlPost ((rnS p (beginS p) m).1.out, (rnS p (beginS p) m).2.1, (rnS p (beginS p) m).2.2) u)) := hide (fun u hu => by rw [← hall]; exact runAll_any p vp m u (hp.kept hu) (hkd.kept hu))
  have HR1 : Hid (∀ u v, Kept w u → StAt u v (beginS p) → Calls Tryd.prog 13 #[vp, v, .int .i64 m] u (RnPost (rnS p (beginS p) m) u)) := hide (fun u v hu hs => runRun_any p _ vp v m u (hp.kept hu) hs (hkd.kept hu))
  have HR0 : Hid (∀ u v, Kept w u → StAt u v (beginS p) → Calls Tryd.prog 13 #[vp, v, .int .i64 0] u (RnPost (beginS p, 0, 0) u)) := hide (fun u v hu hs => by rw [← hzero]; exact runRun_any p _ vp v 0 u (hp.kept hu) hs (hkd.kept hu))
  have HRB : Hid (∀ u, Kept w u → Calls Tryd.prog 15 #[] u fun e w' => e = .returned (.bool true) ∧ Kept u w') := hide (fun u hu => runBegun_any u (hkd.kept hu))
  clear hall hzero hp hkd
  generalize rnS p (beginS p) m = r at *
  generalize hs0' : beginS p = s0 at *
  clear hs0'
  have HSM := hide hsm
  have HS0 := hide hs0
  clear hsm hs0
  go_enter Tryd.func7, Tryd.ntmps7
  go_wp2_with fail
  refine (unhide HCH).mono ?_
  rintro _ w0 ⟨rfl, rfl⟩
  go_wp2_with fail
  refine (unhide HB).mono ?_
  rintro _ w1 ⟨v, rfl, hs1, hk1⟩
  have HS1 := hide hs1
  obtain ⟨vf, vo, rfl, ⟨oa, cap, rfl, _, _⟩, ⟨oo, co, rfl, _, _⟩⟩ := hs1
  have HK1 := hide hk1
  clear hk1 HB HCH
  generalize hN : s0.fibers.length = N at *
  generalize hM : s0.out.length = M at *
  generalize hnn : s0.now = nn at *
  have HNN := hide (And.intro hN (And.intro hM hnn))
  clear hN hM hnn
  go_wp2_with fail
  have hx1 : (w1.alloc (.cells #[.slice oa N cap, .int .i64 nn, .slice oo M co] 35)).heap[w1.heap.size]? = some (.cells #[.slice oa N cap, .int .i64 nn, .slice oo M co] 35) := lays_new rfl
  have hkx := (Kept.refl w1).alloc (.cells #[.slice oa N cap, .int .i64 nn, .slice oo M co] 35)
  generalize w1.alloc (.cells #[.slice oa N cap, .int .i64 nn, .slice oo M co] 35) = wx at *
  have HSX := hide ((unhide HS1).kept hkx)
  have HKX := hide ((unhide HK1).trans hkx)
  have HLX := hide hx1
  clear hkx hx1 HS1 HK1
  refine ((unhide HA) _ (unhide HKX)).mono ?_
  rintro _ w2 ⟨v2, rfl, hr2, hk2⟩
  have HI2 := hide (ints_row hr2 (unhide HSM).2.1)
  have HS2 := hide ((unhide HSX).kept hk2)
  have HK2 := hide ((unhide HKX).trans hk2)
  have lX2 := lays_kept hk2 (unhide HLX)
  have HL2 := hide lX2
  have a0 := cell_lays lX2 0
  have a1 := cell_lays lX2 1
  have a2 := cell_lays lX2 2
  clear hr2 hk2 lX2 HA HSX HKX HLX
  go_wp2_with fail
  refine ((unhide HR1) _ _ (unhide HK2) (unhide HS2)).mono ?_
  rintro _ w3 ⟨V3, rfl, ho3, hk3⟩
  obtain ⟨xs3, hr3, _⟩ := ho3.piece .fibers trivial
  obtain ⟨o3, c3, E3, _⟩ := row_slice hr3
  have hr4 := ho3.piece .out trivial
  obtain ⟨o4, c4, E4, _⟩ := row_slice hr4
  have hi3 : IntsW w3 (V3 .out) r.1.out := ints_row hr4 (unhide HSM).2.1
  rw [E4] at hi3
  rw [E3, E4]
  generalize r.1.fibers.length = N3 at *
  generalize hM3 : r.1.out.length = M3 at *
  generalize r.1.now = n3 at *
  have HJ3 := hide hi3
  have HI3 := hide ((unhide HI2).kept hk3)
  have HS3 := hide ((unhide HS2).kept hk3)
  have HK3 := hide ((unhide HK2).trans hk3)
  have HL3 := hide (lays_kept hk3 (unhide HL2))
  clear hi3 hr3 hr4 E3 E4 ho3 hk3 HI2 HS2 HK2 HL2 a0 a1 a2 HR1 hM3
  have hx3 : (w3.alloc (.cells #[.slice o3 N3 c3, .int .i64 n3, .slice o4 M3 c4] 35)).heap[w3.heap.size]? = some (.cells #[.slice o3 N3 c3, .int .i64 n3, .slice o4 M3 c4] 35) := lays_new rfl
  have hky := (Kept.refl w3).alloc (.cells #[.slice o3 N3 c3, .int .i64 n3, .slice o4 M3 c4] 35)
  have lY := lays_kept hky (unhide HL3)
  have HSY := hide ((unhide HS3).kept hky)
  have HIY := hide ((unhide HI3).kept hky)
  have HJY := hide ((unhide HJ3).kept hky)
  have HKY := hide ((unhide HK3).trans hky)
  have HLY := hide lY
  have HX3 := hide hx3
  have a0 := cell_lays lY 0
  have a1 := cell_lays lY 1
  have a2 := cell_lays lY 2
  clear hky hx3 lY HS3 HI3 HJ3 HK3 HL3
  go_wp2_with fail
  refine ((unhide HR0) _ _ (unhide HKY) (unhide HSY)).mono ?_
  rintro _ w4 ⟨V4, rfl, ho4, hk4⟩
  have hst4 := ho4.reads (unhide HS0)
  obtain ⟨xs5, hr5, _⟩ := ho4.piece .fibers trivial
  obtain ⟨o5, c5, E5, _⟩ := row_slice hr5
  have hr6 := ho4.piece .out trivial
  obtain ⟨o6, c6, E6, _⟩ := row_slice hr6
  rw [E5, E6] at hst4 ⊢
  dsimp only at hst4 ⊢
  rw [(unhide HNN).1, (unhide HNN).2.1, (unhide HNN).2.2] at hst4 ⊢
  have HT4 := hide hst4
  have HS4 := hide ((unhide HSY).kept hk4)
  have HI4 := hide ((unhide HIY).kept hk4)
  have HJ4 := hide ((unhide HJY).kept hk4)
  have HK4 := hide ((unhide HKY).trans hk4)
  have HL4 := hide (lays_kept hk4 (unhide HLY))
  have HX4 := hide (lays_kept hk4 (unhide HX3))
  clear hst4 hr5 hr6 E5 E6 ho4 hk4 HSY HIY HJY HKY HLY HX3 a0 a1 a2 HR0
  go_wp2_with fail
  have hx4 : (w4.alloc (.cells #[.slice o5 N c5, .int .i64 nn, .slice o6 M c6] 35)).heap[w4.heap.size]? = some (.cells #[.slice o5 N c5, .int .i64 nn, .slice o6 M c6] 35) := lays_new rfl
  have hkz := (Kept.refl w4).alloc (.cells #[.slice o5 N c5, .int .i64 nn, .slice o6 M c6] 35)
  refine ((unhide HRB) _ ((unhide HK4).trans hkz)).mono ?_
  rintro _ w5 ⟨rfl, hk5⟩
  have hk45 := hkz.trans hk5
  have l1 := lays_kept hk45 (unhide HL4)
  have l3 := lays_kept hk45 (unhide HX4)
  have l4 := lays_kept hk5 hx4
  have b0 := cell_lays l1 0
  have b1 := cell_lays l1 1
  have b2 := cell_lays l1 2
  have d2 := cell_lays l3 2
  have e0 := cell_lays l4 0
  have e1 := cell_lays l4 1
  have e2 := cell_lays l4 2
  have HL1 := hide l1
  have HL4' := hide l4
  have HT5 := hide ((unhide HT4).kept hk45)
  have HS5 := hide ((unhide HS4).kept hk45)
  have HSI := hide (sameInts_w r.1.out r.1.out _ _ w5 ((unhide HI4).kept hk45) ((unhide HJ4).kept hk45))
  have HK5 := hide ((unhide HK4).trans hk45)
  clear hx4 hkz hk5 hk45 l1 l3 l4 HT4 HS4 HI4 HJ4 HK4 HL4 HX4 HRB
  go_wp2_with fail
  refine (unhide HSI).mono ?_
  rintro _ w6 ⟨rfl, hk6⟩
  rw [decide_eq_true trivial]
  have l1 := lays_kept hk6 (unhide HL1)
  have l4 := lays_kept hk6 (unhide HL4')
  clear b0 b1 b2 d2 e0 e1 e2
  have b0 := cell_lays l1 0
  have b1 := cell_lays l1 1
  have b2 := cell_lays l1 2
  have e0 := cell_lays l4 0
  have e1 := cell_lays l4 1
  have e2 := cell_lays l4 2
  have HSS := hide (sameStates_same s0 _ _ w6 ((unhide HT5).kept hk6) ((unhide HS5).kept hk6))
  have HK6 := hide ((unhide HK5).trans hk6)
  clear hk6 l1 l4 HL1 HL4' HT5 HS5 HSI HK5
  go_wp2_with fail
  refine (unhide HSS).mono ?_
  rintro _ w7 ⟨rfl, hk7⟩
  have HK7 := hide ((unhide HK6).trans hk7)
  clear b0 b1 b2 e0 e1 e2 hk7 HSS HK6
  go_wp2
  go_ret
  exact ⟨rfl, unhide HK7⟩
end Go.Proofs.YtlapliclhfpgkaaDoor
