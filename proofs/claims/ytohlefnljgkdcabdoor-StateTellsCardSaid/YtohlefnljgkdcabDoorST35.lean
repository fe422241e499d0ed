/- StateO, StateM, StepU, StateTq, GoodA -/
import Derived.Test.YtohlefnljgkdcabDoorST34
import Derived.Test.YtohlefnljgkdcabDoorST15
import Derived.Test.YtohlefnljgkdcabDoorST13
import Derived.Test.YtohlefnljgkdcabDoorST14
import Derived.Test.YtohlefnljgkdcabDoorST29
import Derived.Test.YtohlefnljgkdcabDoorST17
import Derived.Test.YtohlefnljgkdcabDoorST26
import Derived.Test.YtohlefnljgkdcabDoorST11
namespace Go.Proofs.YtohlefnljgkdcabDoor
open Go.RowKit
theorem href_of {p : List Fn} {vp : Value} {w : World} (hp : ProgAt w vp p) (hz : progS p = 0) : HRef w vp p := by
  intro k u hk hu
  obtain ⟨_, _, hck⟩ := progS_right hz
  refine (refHeights_at p vp k u (hp.kept hu) (hck k hk)).mono ?_
  intro e u' h
  have hs := progS_heights hz hk
  unfold RefPost at h
  rw [hs] at h
  exact h
theorem stateError_any (p : List Fn) (vp v : Value) (s : St) (w : World) (hp : ProgAt w vp p) (hs : StAt w v s) :
    Calls Tryd.prog 32 #[vp, v] w fun e w' => e = .returned (.int .i64 (stErrS p s)) ∧ Kept w w' := by
  obtain ⟨vf, vo, rfl, hf, ho⟩ := hs
  by_cases hz : progS p = 0
  · obtain ⟨oa, cap, rfl, _, hc⟩ := id hf
    by_cases h0 : s.fibers.length = 0
    · obtain ⟨oo, co, rfl, _, _⟩ := id ho
      rw [h0]
      refine stateError_none p vp oa oo cap _ co s.now w hp hz _ ?_
      by_cases h30 : s.out.length ≤ 30
      · rw [if_pos h30, st_lim hz (lim_tail ⟨by omega, h30⟩ (fun k hk => by omega)) (by rw [if_neg (by omega)]; decide), if_neg (by omega)]
      · rw [if_neg h30, st_lim hz (lim_many (by omega)) (by decide)]
    · obtain ⟨b, o, _, rfl, -⟩ := hc 0 _ (getD_of_lt s.fibers 0 Fb.zero (by omega))
      exact stateError_go p vp s b o cap vo w hp (href_of hp hz) hz (by omega) hf ho
  · have : stErrS p s = progS p := by unfold stErrS; rw [if_neg hz]
    rw [this]
    exact stateError_prog p vp _ _ _ w hp hz
end Go.Proofs.YtohlefnljgkdcabDoor
namespace Go.Proofs.YtohlefnljgkdcabDoor
open Go.RowKit
def StPost (s : St) (w : World) (e : Ending) (w' : World) : Prop := ∃ v, e = .returned v ∧ StAt w' v s ∧ Kept w w'
theorem begin_at {w : World} {b1 b2 b3 lo : Nat} (h1 : w.heap[b1]? = some (.cells (ints (List.replicate lo 0)).toArray 3)) (h2 : w.heap[b2]? = some (.cells #[.int .i64 0, .int .i64 0, .slice (some ⟨b1, 0, none⟩) lo lo, .slice none 0 0] 76))
    (h3 : w.heap[b3]? = some (.cells #[.slice (some ⟨b2, 0, none⟩) 1 1, .int .i64 (-1)] 79)) (hlo : lo ≤ 1000) :
    StAt w (.agg #[.slice (some ⟨b3, 0, none⟩) 1 1, .int .i64 0, .slice none 0 0]) ⟨[⟨[⟨0, 0, List.replicate lo 0, []⟩], -1⟩], 0, []⟩ := by
  refine ⟨_, _, rfl, ⟨some ⟨b3, 0, none⟩, 1, rfl, by simp, fun i b hb => ?_⟩, IntsW.nil _⟩
  have hi : i = 0 := by
    have := (List.getElem?_eq_some_iff.1 hb).1
    simpa using this
  subst hi
  simp at hb
  subst hb
  refine ⟨b3, 0, _, rfl, cell_at h3 rfl, cell_at h3 rfl, some ⟨b2, 0, none⟩, 1, rfl, ⟨by simp, by simp⟩, fun j f hf => ?_⟩
  have hj : j = 0 := by
    have := (List.getElem?_eq_some_iff.1 hf).1
    simpa using this
  subst hj
  simp at hf
  subst hf
  refine ⟨b2, 0, _, _, rfl, cell_at h2 rfl, cell_at h2 rfl, cell_at h2 rfl, cell_at h2 rfl, ⟨some ⟨b1, 0, none⟩, lo, by simp, by simp; omega, fun q z hz => ⟨b1, 0, rfl, ?_⟩⟩, IntsW.nil _⟩
  rw [Nat.zero_add]
  exact cell_at h1 (by rw [List.getElem?_toArray]; exact ints_get hz)
set_option maxHeartbeats 1000000 in
set_option maxRecDepth 100000 in
theorem beginOf_go (b o n cp lo : Nat) (w : World) (c1 : w.cell? ⟨b, o + 1, none⟩ = some (.int .i64 lo)) (hn : 0 < n) (hlo : lo ≤ 1000) :
    Calls Tryd.prog 28 #[.slice (some ⟨b, o, none⟩) n cp] w fun e w' => StPost ⟨[⟨[⟨0, 0, List.replicate lo 0, []⟩], -1⟩], 0, []⟩ w e w' := by
  have hmk := make_ints lo (by omega)
  have hn1 : (0 : Int) < (n : Int) := by omega
  have lb := cell_lt c1
  simp only at lb
  go_enter Tryd.func28, Tryd.ntmps28
  go_wp2
  generalize hB : w.heap.size = B0 at *
  have hrep : Array.replicate lo (Value.int .i64 0) = (ints (List.replicate lo 0)).toArray := by simp [ints]
  rw [hrep]
  generalize hw : (((w.alloc (.cells #[.slice (some ⟨B0 + 1 + 1 + 1, 0, none⟩) 1 1, .int .i64 0, .slice none 0 0] 54)).alloc (.cells (ints (List.replicate lo 0)).toArray 3)).alloc (.cells #[.int .i64 0, .int .i64 0, .slice (some ⟨B0 + 1, 0, none⟩) lo lo, .slice none 0 0] 76)).alloc (.cells #[.slice (some ⟨B0 + 1 + 1, 0, none⟩) 1 1, .int .i64 (-1)] 79) = wz
  have L0 : wz.heap[B0]? = some (.cells #[.slice (some ⟨B0 + 1 + 1 + 1, 0, none⟩) 1 1, .int .i64 0, .slice none 0 0] 54) := by rw [← hw]; exact lays_alloc (lays_alloc (lays_alloc (lays_new hB) _) _) _
  have L1 : wz.heap[B0 + 1]? = some (.cells (ints (List.replicate lo 0)).toArray 3) := by rw [← hw]; exact lays_alloc (lays_alloc (lays_new (by simp [hB])) _) _
  have L2 : wz.heap[B0 + 1 + 1]? = some (.cells #[.int .i64 0, .int .i64 0, .slice (some ⟨B0 + 1, 0, none⟩) lo lo, .slice none 0 0] 76) := by rw [← hw]; exact lays_alloc (lays_new (by simp [hB])) _
  have L3 : wz.heap[B0 + 1 + 1 + 1]? = some (.cells #[.slice (some ⟨B0 + 1 + 1, 0, none⟩) 1 1, .int .i64 (-1)] 79) := by rw [← hw]; exact lays_new (by simp [hB])
  have hk : Kept w wz := by rw [← hw]; exact ((((Kept.refl w).alloc _).alloc _).alloc _).alloc _
  have k0 : wz.cell? ⟨B0, 0, none⟩ = some (.slice (some ⟨B0 + 1 + 1 + 1, 0, none⟩) 1 1) := cell_at L0 rfl
  have k1 : wz.cell? ⟨B0, 1, none⟩ = some (.int .i64 0) := cell_at L0 rfl
  have k2 : wz.cell? ⟨B0, 2, none⟩ = some (.slice none 0 0) := cell_at L0 rfl
  refine bodyPost_ret (v := .agg #[.slice (some ⟨B0 + 1 + 1 + 1, 0, none⟩) 1 1, .int .i64 0, .slice none 0 0]) (by simp [results, Tryd.results28, go_sem, k0, k1, k2]) rfl ?_
  exact ⟨_, rfl, begin_at L1 L2 L3 hlo, hk⟩
theorem beginOf_any (p : List Fn) (vp : Value) (w : World) (hp : ProgAt w vp p) (hz : progS p = 0) :
    Calls Tryd.prog 28 #[vp] w fun e w' => StPost (beginS p) w e w' := by
  obtain ⟨_, hp0, hck⟩ := progS_right hz
  obtain ⟨oa, cp, rfl, _, hcell⟩ := id hp
  obtain ⟨b, o, cv, rfl, _, c1, _, _⟩ := hcell 0 _ (getD_of_lt p 0 Fn.zero hp0)
  have hroom : 0 ≤ (p.getD 0 Fn.zero).locals ∧ (p.getD 0 Fn.zero).locals ≤ 4 := by
    obtain ⟨i, hi, _, _, hr, _⟩ := chkS_zero (hck 0 hp0)
    obtain rfl : i = 0 := by omega
    have := roomB_iff.1 hr
    omega
  obtain ⟨lo, hlo⟩ : ∃ lo : Nat, (p.getD 0 Fn.zero).locals = lo := ⟨(p.getD 0 Fn.zero).locals.toNat, by omega⟩
  unfold beginS
  rw [hlo] at c1 hroom ⊢
  rw [Int.toNat_natCast]
  exact beginOf_go b o _ cp lo w (by simpa using c1) hp0 (by omega)
end Go.Proofs.YtohlefnljgkdcabDoor
namespace Go.Proofs.YtohlefnljgkdcabDoor
open Go.RowKit
set_option maxRecDepth 100000 in
set_option maxHeartbeats 2000000 in
theorem runOf_on (p : List Fn) (s : St) (vp v : Value) (fuel : Nat) (w : World) (hp : ProgAt w vp p) (hs : StAt w v s) (hsm : Small s) (hf : fuel ≤ 500) (hz : stErrS p s = 0) (hok : runOk p fuel s) :
    Calls Tryd.prog 64 #[vp, v, .int .i64 fuel] w (RunPost (runS p fuel s) w) := by
  obtain ⟨oa, cp, rfl, _, _⟩ := id hp
  have HP := hide hp
  have HS := hide hs
  obtain ⟨vf, vo, rfl, hF, hO⟩ := hs
  obtain ⟨oF, cF, rfl, _, _⟩ := hF
  obtain ⟨oO, cO, rfl, _, _⟩ := hO
  have HOK := hide hok
  have HSM := hide hsm
  have HZ := hide hz
  have hin : inB (fuel : Int) 0 500 = true := inB_true (by omega) (by omega)
  clear hp hok hsm hz
  generalize hR0 : runS p fuel s = RR
  have HRR := hide hR0
  clear hR0
  go_enter Tryd.func64, Tryd.ntmps64
  go_wp2_with (go_at_call 34; refine (within_any _ _ _ _).mono ?_; rw [hin]; rintro e w' ⟨rfl, rfl⟩)
  generalize hw1 : (w.alloc (.cells #[.slice oF s.fibers.length cF, .int .i64 s.now, .slice oO s.out.length cO] 54)).alloc (.cells #[.slice none 0 0, .int .i64 0, .slice none 0 0] 54) = w1
  have LA : w1.heap[w.heap.size]? = some (.cells #[.slice oF s.fibers.length cF, .int .i64 s.now, .slice oO s.out.length cO] 54) := by rw [← hw1]; exact lays_alloc (lays_new rfl) _
  have LR : w1.heap[w.heap.size + 1]? = some (.cells #[.slice none 0 0, .int .i64 0, .slice none 0 0] 54) := by rw [← hw1]; exact lays_new (by simp)
  have hk1 : Kept w w1 := by rw [← hw1]; exact ((Kept.refl w).alloc _).alloc _
  have hs1 : w1.heap.size = w.heap.size + 2 := by rw [← hw1]; simp
  have HE := hide (stateError_any p _ _ s w1 ((unhide HP).kept hk1) ((unhide HS).kept hk1))
  have HK1 := hide hk1
  have HLA := hide LA
  have HLR := hide LR
  have HSZ := hide hs1
  clear hw1 hk1 hs1 LA LR
  refine (unhide HE).mono ?_
  rintro _ w2 ⟨rfl, hk2⟩
  rw [unhide HZ]
  have hk12 := (unhide HK1).trans hk2
  have a0 := cell_lays (lays_kept hk2 (unhide HLA)) 0
  have a1 := cell_lays (lays_kept hk2 (unhide HLA)) 1
  have a2 := cell_lays (lays_kept hk2 (unhide HLA)) 2
  have HLR2 := hide (lays_kept hk2 (unhide HLR))
  have hrc := run_any p s _ _ fuel w2 ((unhide HP).kept hk12) ((unhide HS).kept hk12) (unhide HSM) hf (unhide HOK)
  rw [unhide HRR] at hrc
  have HC := hide hrc
  clear hrc
  have HK2 := hide hk12
  have HG := hide hk2.size
  clear hk2 hk12 HE
  go_wp2_with fail
  refine (unhide HC).mono ?_
  rintro _ w3 ⟨V, rfl, ho3, hk3⟩
  obtain ⟨xsF, hrF, _⟩ := ho3.piece .fibers trivial
  obtain ⟨oX, cX, hVf, _⟩ := row_slice hrF
  have hrO : _ := ho3.piece .out trivial
  obtain ⟨oY, cY, hVo, _⟩ := row_slice hrO
  have LR3 := lays_kept hk3 (unhide HLR2)
  generalize hR2 : w.heap.size + 1 = R2 at *
  have r0 := cell_lays LR3 0
  have r1 := cell_lays LR3 1
  have r2 := cell_lays LR3 2
  have f0 := frozen_lays LR3 0
  have f1 := frozen_lays LR3 1
  have f2 := frozen_lays LR3 2
  have HLZ := hide (lay3 (x := .slice oX RR.1.fibers.length cX) (y := .int .i64 RR.1.now) (z := .slice oY RR.1.out.length cY) LR3)
  have HVF := hide hVf
  have HVO := hide hVo
  have HO3 := hide ho3
  have HK3 := hide ((unhide HK2).trans hk3)
  have HRZ : Hid (w.heap.size + 1 = R2 ∧ w2.heap.size ≥ w.heap.size + 2) := hide ⟨hR2, by have := unhide HG; have := unhide HSZ; omega⟩
  rw [hVf, hVo]
  clear ho3 hk3 hrF hrO hVf hVo LR3 HC a0 a1 a2 hR2
  go_wp2_with fail
  have k0 := cell_lays (unhide HLZ) 0
  have k1 := cell_lays (unhide HLZ) 1
  have k2 := cell_lays (unhide HLZ) 2
  have hwR : w.heap.size ≤ R2 := by have := unhide HRZ; omega
  have hkf : Kept w (((w3.setCell ⟨R2, 0, none⟩ (.slice oX RR.1.fibers.length cX)).setCell ⟨R2, 1, none⟩ (.int .i64 RR.1.now)).setCell ⟨R2, 2, none⟩ (.slice oY RR.1.out.length cY)) := (((unhide HK3).setCell (p := ⟨R2, 0, none⟩) hwR _).setCell (p := ⟨R2, 1, none⟩) hwR _).setCell (p := ⟨R2, 2, none⟩) hwR _
  have hwf : ∀ (y : Nat), w2.heap.size ≤ y → (((w3.setCell ⟨R2, 0, none⟩ (.slice oX RR.1.fibers.length cX)).setCell ⟨R2, 1, none⟩ (.int .i64 RR.1.now)).setCell ⟨R2, 2, none⟩ (.slice oY RR.1.out.length cY)).heap[y]? = w3.heap[y]? := fun y hy => by
    have := unhide HRZ
    rw [Below.heap_setCell _ _ _ _ (by simp only; omega), Below.heap_setCell _ _ _ _ (by simp only; omega), Below.heap_setCell _ _ _ _ (by simp only; omega)]
  refine bodyPost_ret (v := .tuple #[.agg #[.slice oX RR.1.fibers.length cX, .int .i64 RR.1.now, .slice oY RR.1.out.length cY], .int .i64 RR.2.1, .int .i64 RR.2.2]) (by simp [results, Tryd.results64, go_sem, k0, k1, k2]) rfl ?_
  exact ⟨V, by rw [unhide HVF, unhide HVO], Own.base (base := w2.heap.size) ((unhide HO3).same (fun kk g hkk hg => hwf g (((unhide HO3).piece kk hkk).block g hg).1)) (by have := unhide HRZ; omega), hkf⟩
set_option maxRecDepth 100000 in
set_option maxHeartbeats 2000000 in
theorem after_on (p : List Fn) (vp : Value) (fuel : Nat) (w : World) (hp : ProgAt w vp p) (hpz : progS p = 0) (hsm : Small (beginS p)) (hf : fuel ≤ 500) (hz : stErrS p (beginS p) = 0) (hok : runOk p fuel (beginS p)) :
    Calls Tryd.prog 46 #[vp, .int .i64 fuel] w (OwnPost (runS p fuel (beginS p)).1 w) := by
  obtain ⟨oa, cp, rfl, _, _⟩ := id hp
  have HP := hide hp
  have HOK := hide hok
  have HSM := hide hsm
  have HZ := hide hz
  have HPZ := hide hpz
  clear hp hok hsm hz hpz
  generalize hR0 : runS p fuel (beginS p) = RR
  have HRR := hide hR0
  clear hR0
  go_enter Tryd.func46, Tryd.ntmps46
  go_wp2_with fail
  generalize hw1 : w.alloc (.cells #[.slice none 0 0, .int .i64 0, .slice none 0 0] 54) = w1
  have LR : w1.heap[w.heap.size]? = some (.cells #[.slice none 0 0, .int .i64 0, .slice none 0 0] 54) := by rw [← hw1]; exact lays_new rfl
  have hk1 : Kept w w1 := by rw [← hw1]; exact (Kept.refl w).alloc _
  have hs1 : w1.heap.size = w.heap.size + 1 := by rw [← hw1]; simp
  have HB := hide (beginOf_any p _ w1 ((unhide HP).kept hk1) (unhide HPZ))
  have HK1 := hide hk1
  have HLR := hide LR
  have HSZ := hide hs1
  clear hw1 hk1 hs1 LR
  refine (unhide HB).mono ?_
  rintro _ w2 ⟨vb, rfl, hst2, hk2⟩
  obtain ⟨vf, vo, rfl, hF, hO⟩ := id hst2
  obtain ⟨oF, cF, rfl, _, _⟩ := hF
  obtain ⟨oO, cO, rfl, _, _⟩ := hO
  have hrc := runOf_on p (beginS p) _ _ fuel w2 ((unhide HP).kept ((unhide HK1).trans hk2)) hst2 (unhide HSM) hf (unhide HZ) (unhide HOK)
  rw [unhide HRR] at hrc
  have HC := hide hrc
  clear hrc
  have HK2 := hide ((unhide HK1).trans hk2)
  have HLR2 := hide (lays_kept hk2 (unhide HLR))
  have HG := hide hk2.size
  clear hk2 hst2 HB
  go_wp2_with fail
  refine (unhide HC).mono ?_
  rintro _ w3 ⟨V, rfl, ho3, hk3⟩
  obtain ⟨xsF, hrF, _⟩ := ho3.piece .fibers trivial
  obtain ⟨oX, cX, hVf, _⟩ := row_slice hrF
  have hrO : _ := ho3.piece .out trivial
  obtain ⟨oY, cY, hVo, _⟩ := row_slice hrO
  rw [hVf, hVo]
  have LR3 := lays_kept hk3 (unhide HLR2)
  have HVF := hide hVf
  have HVO := hide hVo
  have HO3 := hide ho3
  have HK3 := hide ((unhide HK2).trans hk3)
  have HG3 := hide hk3.size
  clear hrF hrO hVf hVo HC hk3
  go_upto_region 2 with fail
  generalize hw4 : w3.alloc (.cells #[.slice oX RR.1.fibers.length cX, .int .i64 RR.1.now, .slice oY RR.1.out.length cY] 54) = w4
  have hk4 : Kept w3 w4 := by rw [← hw4]; exact (Kept.refl w3).alloc _
  have hB : w4.heap[w3.heap.size]? = some (.cells #[.slice oX RR.1.fibers.length cX, .int .i64 RR.1.now, .slice oY RR.1.out.length cY] 54) := by rw [← hw4]; exact lays_new rfl
  have LR4 := lays_kept hk4 LR3
  have HO4 := hide (show Own w2.heap.size w4 V RR.1 from (unhide HO3).same (fun kk g hkk hg => hk4.block g (((unhide HO3).piece kk hkk).block g hg).2))
  have HK4 := hide ((unhide HK3).trans hk4)
  generalize hR2 : w.heap.size = R2 at *
  have r0 := cell_lays LR4 0
  have r1 := cell_lays LR4 1
  have r2 := cell_lays LR4 2
  have f0 := frozen_lays LR4 0
  have f1 := frozen_lays LR4 1
  have f2 := frozen_lays LR4 2
  have b0 := cell_lays hB 0
  have b1 := cell_lays hB 1
  have b2 := cell_lays hB 2
  have HLZ := hide (lay3 (x := .slice oX RR.1.fibers.length cX) (y := .int .i64 RR.1.now) (z := .slice oY RR.1.out.length cY) LR4)
  have HRZ : Hid (w.heap.size = R2 ∧ w2.heap.size ≥ w.heap.size + 1) := hide ⟨hR2, by have := unhide HG; have := unhide HSZ; omega⟩
  clear hw4 hk4 hB LR4 LR3 hR2 HO3 HK3 ho3
  go_wp2_with fail
  have k0 := cell_lays (unhide HLZ) 0
  have k1 := cell_lays (unhide HLZ) 1
  have k2 := cell_lays (unhide HLZ) 2
  have hwR : w.heap.size ≤ R2 := by have := unhide HRZ; omega
  have hkf : Kept w (((w4.setCell ⟨R2, 0, none⟩ (.slice oX RR.1.fibers.length cX)).setCell ⟨R2, 1, none⟩ (.int .i64 RR.1.now)).setCell ⟨R2, 2, none⟩ (.slice oY RR.1.out.length cY)) := (((unhide HK4).setCell (p := ⟨R2, 0, none⟩) hwR _).setCell (p := ⟨R2, 1, none⟩) hwR _).setCell (p := ⟨R2, 2, none⟩) hwR _
  have hwf : ∀ (y : Nat), w2.heap.size ≤ y → (((w4.setCell ⟨R2, 0, none⟩ (.slice oX RR.1.fibers.length cX)).setCell ⟨R2, 1, none⟩ (.int .i64 RR.1.now)).setCell ⟨R2, 2, none⟩ (.slice oY RR.1.out.length cY)).heap[y]? = w4.heap[y]? := fun y hy => by
    have := unhide HRZ
    rw [Below.heap_setCell _ _ _ _ (by simp only; omega), Below.heap_setCell _ _ _ _ (by simp only; omega), Below.heap_setCell _ _ _ _ (by simp only; omega)]
  refine bodyPost_ret (v := .agg #[.slice oX RR.1.fibers.length cX, .int .i64 RR.1.now, .slice oY RR.1.out.length cY]) (by simp [results, Tryd.results46, go_sem, k0, k1, k2]) rfl ?_
  exact ⟨V, by rw [unhide HVF, unhide HVO], Own.base (base := w2.heap.size) ((unhide HO4).same (fun kk g hkk hg => hwf g (((unhide HO4).piece kk hkk).block g hg).1)) (by have := unhide HRZ; omega), hkf⟩
end Go.Proofs.YtohlefnljgkdcabDoor
namespace Go.Proofs.YtohlefnljgkdcabDoor
theorem right_parts {p : List Fn} {s : St} (h : stErrS p s = 0) : progS p = 0 ∧ limS s = 0 ∧ formR p s = true := by
  unfold stErrS at h
  split at h
  · rename_i h1
    split at h
    · rename_i h2
      split at h
      · rename_i h3; exact ⟨h1, h2, h3⟩
      · cases h
    · rename_i h2; exact absurd h h2
  · rename_i h1; exact absurd h h1
theorem right_fiber {p : List Fn} {s : St} (h : stErrS p s = 0) : ∃ l, lineS s = some l ∧ ∀ k, k < s.fibers.length → fiberB p (fibAt s k) (decide ((k : Int) ∈ l)) (decide ((k : Int) = s.now)) = true := by
  obtain ⟨_, _, h3⟩ := right_parts h
  unfold formR at h3
  cases hl : lineS s with
  | none => rw [hl] at h3; cases h3
  | some l =>
    rw [hl] at h3
    simp only [Bool.and_eq_true] at h3
    refine ⟨l, rfl, fun k hk => ?_⟩
    have := all_range.1 h3.2 k hk
    simp only [Bool.and_eq_true] at this
    exact this.1
theorem jwaits_at {p : List Fn} : ∀ (l : List Fr) (j : Nat), jwaitsB p l = true → j + 1 < l.length → ((l.getD j Fr.zero).stack.length : Int) = hAt p (l.getD j Fr.zero) - 1
  | [], j, _, hj => by simp at hj
  | [x], j, _, hj => by simp at hj
  | x :: y :: r, 0, h, _ => by
    simp only [jwaitsB, Bool.and_eq_true] at h
    obtain ⟨h1, _⟩ := h
    unfold jwaitB at h1
    simp only [Bool.and_eq_true, decide_eq_true_eq] at h1
    exact h1.1.2
  | x :: y :: r, j + 1, h, hj => by
    simp only [jwaitsB, Bool.and_eq_true] at h
    exact jwaits_at (y :: r) j h.2 (by simpa using hj)
theorem frame_parts {p : List Fn} {x : Fr} (h : frameB p x = true) : (0 ≤ x.fn ∧ x.fn < p.length) ∧ (x.locals.length : Int) = (p.getD x.fn.toNat Fn.zero).locals ∧ (0 ≤ x.at_ ∧ x.at_ < (codeOf p x.fn.toNat).length) ∧ 0 ≤ hAt p x := by
  unfold frameB at h
  simp only [Bool.and_eq_true, decide_eq_true_eq] at h
  obtain ⟨h1, h2, h3, h4⟩ := h
  exact ⟨ixB_iff.1 h1, h2, ixB_iff.1 h3, h4⟩
theorem right_frame {p : List Fn} {s : St} (h : stErrS p s = 0) {k j : Nat} (hk : k < s.fibers.length) (hj : j < (fibAt s k).frames.length) :
    frameB p (frAt s k j) = true ∧ (frAt s k j).stack.length ≤ 8 := by
  obtain ⟨hp, _, _⟩ := right_parts h
  obtain ⟨l, _, hf⟩ := right_fiber h
  have hfk := hf k hk
  unfold fiberB at hfk
  cases hlast : (fibAt s k).frames.getLast? with
  | none =>
    have := List.getLast?_eq_none_iff.1 hlast
    rw [this] at hj
    simp at hj
  | some t =>
    rw [hlast] at hfk
    simp only [Bool.and_eq_true] at hfk
    obtain ⟨hfr, hcond⟩ := hfk
    obtain ⟨hall, hjw⟩ := (framesB_iff p _).1 hfr
    have hfj : frameB p (frAt s k j) = true := all_getD hall hj
    refine ⟨hfj, ?_⟩
    obtain ⟨⟨q1, q2⟩, _, _, q3⟩ := frame_parts hfj
    have hle := (hgt_le hp (k := (frAt s k j).fn.toNat) (by omega) (frAt s k j).at_.toNat).2
    have hle' : hAt p (frAt s k j) ≤ 8 := hle
    by_cases hjl : j + 1 < (fibAt s k).frames.length
    · have := jwaits_at _ j hjw hjl
      have h2 : ((frAt s k j).stack.length : Int) = hAt p (frAt s k j) - 1 := this
      omega
    · have ht : t = frAt s k j := by
        rw [List.getLast?_eq_getElem?] at hlast
        have hj2 : j = (fibAt s k).frames.length - 1 := by omega
        unfold frAt
        rw [hj2]
        simp [List.getD, hlast]
      subst ht
      split at hcond
      · have := of_decide_eq_true hcond; omega
      · split at hcond
        · unfold waitB at hcond
          simp only [Bool.and_eq_true, decide_eq_true_eq] at hcond
          have := hcond.1.2
          omega
        · simp only [Bool.and_eq_true, Bool.or_eq_true] at hcond
          rcases hcond.2 with h1 | h1
          · unfold freshB at h1
            split at h1
            · rename_i x hx
              simp only [Bool.and_eq_true, decide_eq_true_eq] at h1
              have : frAt s k j = x := by unfold frAt; rw [hx] at hj ⊢; simp at hj; rw [hj]; rfl
              rw [this, h1.1.2.2]
              omega
            · cases h1
          · unfold waitB at h1
            simp only [Bool.and_eq_true, decide_eq_true_eq] at h1
            have := h1.1.2
            omega
end Go.Proofs.YtohlefnljgkdcabDoor
namespace Go.Proofs.YtohlefnljgkdcabDoor
def Path (fs : List Fb) : Int → List Int → Prop
  | n, [] => n = -1
  | n, x :: r => n = x ∧ 0 ≤ x ∧ x < fs.length ∧ Path fs (callerOf fs x) r
theorem path_of_line {fs : List Fb} (hc : ∀ b, b ∈ fs → -1 ≤ b.caller ∧ b.caller < fs.length) : ∀ (k : Nat) (n : Int) (acc l : List Int), lineF fs k n acc = some l → -1 ≤ n → n < fs.length → acc.Nodup → ∃ r, l = acc ++ r ∧ Path fs n r ∧ l.Nodup
  | 0, _, _, _, h, _, _, _ => by cases h
  | k + 1, n, acc, l, h, h1, h2, hd => by
    unfold lineF at h
    split at h
    · obtain rfl := Option.some.inj h
      exact ⟨[], by simp, by show n = -1; omega, hd⟩
    · split at h
      · cases h
      · rename_i hn hna
        have hc' : -1 ≤ callerOf fs n ∧ callerOf fs n < fs.length := hc _ (List.mem_of_getElem? (getD_of_lt fs n.toNat Fb.zero (by omega)))
        obtain ⟨r, e, hp, hl⟩ := path_of_line hc k _ _ l h hc'.1 hc'.2 (by
          rw [List.nodup_append]
          refine ⟨hd, by simp, fun a ha b hb e => ?_⟩
          simp only [List.mem_singleton] at hb
          subst hb e
          exact hna ha)
        exact ⟨n :: r, by rw [e]; simp, ⟨rfl, by omega, h2, hp⟩, hl⟩
theorem line_of_path {fs : List Fb} : ∀ (k : Nat) (n : Int) (acc r : List Int), Path fs n r → (acc ++ r).Nodup → r.length < k → lineF fs k n acc = some (acc ++ r)
  | 0, _, _, _, _, _, h => by omega
  | k + 1, n, acc, [], hp, _, _ => by
    have : n = -1 := hp
    unfold lineF
    rw [if_pos (by omega)]
    simp
  | k + 1, n, acc, x :: r, hp, hd, hk => by
    obtain ⟨rfl, h0, _, hp'⟩ := hp
    have hna : n ∉ acc := fun h => (List.nodup_append.1 hd).2.2 n h n (by simp) rfl
    unfold lineF
    rw [if_neg (by omega), if_neg hna]
    have := line_of_path k (callerOf fs n) (acc ++ [n]) r hp' (by simpa using hd) (by simpa using hk)
    simpa using this
theorem Path.inside {fs : List Fb} : ∀ {n : Int} {l : List Int}, Path fs n l → ∀ z, z ∈ l → 0 ≤ z ∧ z < fs.length
  | _, [], _, z, hz => by cases hz
  | _, x :: r, ⟨_, h0, h1, h2⟩, z, hz => by
    rcases List.mem_cons.1 hz with rfl | hz
    · exact ⟨h0, h1⟩
    · exact h2.inside z hz
theorem Path.congr {fs fs' : List Fb} (hl : fs.length ≤ fs'.length) : ∀ {n : Int} {l : List Int}, Path fs n l → (∀ z, z ∈ l → callerOf fs' z = callerOf fs z) → Path fs' n l
  | _, [], h, _ => h
  | _, x :: r, ⟨h0, h1, h2, h3⟩, hc => ⟨h0, h1, by omega, by rw [hc x (by simp)]; exact h3.congr hl (fun z hz => hc z (List.mem_cons_of_mem _ hz))⟩
theorem Path.range {fs : List Fb} {n : Int} {l : List Int} (h : Path fs n l) : -1 ≤ n ∧ (n < fs.length ∨ n = -1) := by
  cases l with
  | nil => have : n = -1 := h; omega
  | cons x r => obtain ⟨rfl, h0, h1, _⟩ := h; omega
theorem Path.next {fs : List Fb} : ∀ {n : Int} {l : List Int}, Path fs n l → ∀ z, z ∈ l → (callerOf fs z = -1 ∧ l.getLast? = some z) ∨ (callerOf fs z ∈ l)
  | _, [], _, z, hz => by cases hz
  | _, x :: r, ⟨_, _, _, h3⟩, z, hz => by
    rcases List.mem_cons.1 hz with rfl | hz
    · cases r with
      | nil => exact .inl ⟨h3, rfl⟩
      | cons y r' => obtain ⟨h4, _⟩ := h3; right; rw [h4]; simp
    · rcases h3.next z hz with ⟨h4, h5⟩ | h4
      · refine .inl ⟨h4, ?_⟩
        cases r with
        | nil => cases hz
        | cons y r' => rw [List.getLast?_cons_cons]; exact h5
      · exact .inr (List.mem_cons_of_mem _ h4)
structure Good (p : List Fn) (s : St) (l : List Int) : Prop where
  prog : progS p = 0
  n5 : s.fibers.length ≤ 5
  o30 : s.out.length ≤ 30
  f6 : ∀ k, k < s.fibers.length → (fibAt s k).frames.length ≤ 6
  path : Path s.fibers s.now l
  nodup : l.Nodup
  last : l = [] ∨ l.getLast? = some 0
  pos : 0 < s.fibers.length
  main : (0 : Int) ∉ l → (fibAt s 0).frames = []
  each : ∀ k, k < s.fibers.length → fiberB p (fibAt s k) (decide ((k : Int) ∈ l)) (decide ((k : Int) = s.now)) = true
theorem mem_fibAt {s : St} {b : Fb} (h : b ∈ s.fibers) : ∃ k, k < s.fibers.length ∧ fibAt s k = b := by
  obtain ⟨k, hk, rfl⟩ := List.getElem_of_mem h
  exact ⟨k, hk, by simp [fibAt, List.getD, hk]⟩
theorem right_good {p : List Fn} {s : St} (h : stErrS p s = 0) : ∃ l, lineS s = some l ∧ Good p s l := by
  obtain ⟨hp, hlim, hf⟩ := right_parts h
  obtain ⟨l, hl, hfib⟩ := right_fiber h
  obtain ⟨h5, h30, h6, hpos, ⟨hn1, hn2⟩, hcal⟩ := limS_zero hlim
  have hl' := hl
  unfold lineS at hl'
  cases hlf : lineF s.fibers (s.fibers.length + 1) s.now [] with
  | none => rw [hlf] at hl'; cases hl'
  | some l' =>
    rw [hlf] at hl'
    simp only at hl'
    split at hl'
    · rename_i hlast
      obtain rfl := Option.some.inj hl'
      obtain ⟨r, e, hpath, hnd⟩ := path_of_line hcal _ _ _ _ hlf hn1 hn2 List.nodup_nil
      rw [List.nil_append] at e
      subst e
      refine ⟨_, hl, hp, h5, h30, fun k hk => h6 _ (top_mem k hk), hpath, hnd, hlast, hpos, fun h0 => ?_, hfib⟩
      unfold formR at hf
      rw [hl] at hf
      simp only [Bool.and_eq_true] at hf
      have := all_range.1 hf.2 0 hpos
      simp only [Bool.and_eq_true, decide_true, Bool.true_and] at this
      have h2 := this.2
      rw [decide_eq_false h0] at h2
      have h3 : (s.fibers.getD 0 Fb.zero).frames.isEmpty = true := by simpa using h2
      exact List.isEmpty_iff.1 h3
    · cases hl'
theorem fiberB_off {p : List Fn} {b : Fb} {r : Bool} (h : fiberB p b false r = true) (hr : r = false) : b.caller = -1 := by
  subst hr
  unfold fiberB at h
  split at h
  · simpa using h
  · simp only [Bool.and_eq_true, Bool.false_eq_true, if_false, decide_eq_true_eq] at h
    exact h.2.1
theorem Good.head {p : List Fn} {s : St} {l : List Int} (h : Good p s l) (hn : 0 ≤ s.now) : ∃ r, l = s.now :: r := by
  have hp := h.path
  cases l with
  | nil => have : s.now = -1 := hp; omega
  | cons x r => obtain ⟨h1, _⟩ := hp; exact ⟨r, by rw [h1]⟩
theorem Good.now_mem {p : List Fn} {s : St} {l : List Int} (h : Good p s l) (hn : 0 ≤ s.now) : s.now ∈ l := by
  obtain ⟨r, rfl⟩ := h.head hn; simp
theorem Good.off {p : List Fn} {s : St} {l : List Int} (h : Good p s l) {k : Nat} (hk : k < s.fibers.length) (hm : (k : Int) ∉ l) : (fibAt s k).caller = -1 := by
  have := h.each k hk
  rw [decide_eq_false hm] at this
  refine fiberB_off this (decide_eq_false fun e => hm ?_)
  rw [e]; exact h.now_mem (by omega)
theorem Good.caller {p : List Fn} {s : St} {l : List Int} (h : Good p s l) {k : Nat} (hk : k < s.fibers.length) : -1 ≤ (fibAt s k).caller ∧ (fibAt s k).caller < s.fibers.length := by
  by_cases hm : (k : Int) ∈ l
  · rcases h.path.next _ hm with ⟨e, _⟩ | e
    · have : (fibAt s k).caller = -1 := e
      omega
    · have h1 := h.path.inside _ e
      have : callerOf s.fibers (k : Int) = (fibAt s k).caller := rfl
      omega
  · have := h.off hk hm
    omega
theorem Good.line {p : List Fn} {s : St} {l : List Int} (h : Good p s l) : lineF s.fibers (s.fibers.length + 1) s.now [] = some l ∧ lineS s = some l := by
  have hlen : l.length ≤ s.fibers.length := few h.nodup h.path.inside
  have h1 : lineF s.fibers (s.fibers.length + 1) s.now [] = some l := by
    have := line_of_path (fs := s.fibers) (s.fibers.length + 1) s.now [] l h.path (by simpa using h.nodup) (by omega)
    simpa using this
  refine ⟨h1, ?_⟩
  unfold lineS
  rw [h1]
  simp only
  rw [if_pos h.last]
theorem Good.lim {p : List Fn} {s : St} {l : List Int} (h : Good p s l) : limS s = 0 := by
  have hr := h.path.range
  unfold limS
  rw [if_pos ⟨h.n5, h.o30⟩, if_pos, if_pos h.pos, if_pos, if_pos]
  · rw [List.all_eq_true]
    intro b hb
    obtain ⟨k, hk, rfl⟩ := mem_fibAt hb
    have := h.caller hk
    rw [inB_iff]; omega
  · rw [inB_iff]
    have := h.pos
    rcases hr.2 with h1 | h1 <;> omega
  · rw [List.all_eq_true]
    intro b hb
    obtain ⟨k, hk, rfl⟩ := mem_fibAt hb
    exact decide_eq_true (h.f6 k hk)
theorem good_right {p : List Fn} {s : St} {l : List Int} (h : Good p s l) : stErrS p s = 0 := by
  unfold stErrS
  rw [if_pos h.prog, if_pos h.lim, if_pos]
  unfold formR
  rw [h.line.2]
  simp only [Bool.and_eq_true]
  have hmain : (0 : Int) ∉ l → (s.fibers.getD 0 Fb.zero).frames.isEmpty = true := fun h0 => List.isEmpty_iff.2 (h.main h0)
  constructor
  · by_cases hn : s.now = -1
    · have : l = [] := by
        have hp := h.path
        cases l with
        | nil => rfl
        | cons x r => obtain ⟨h1, h2, _⟩ := hp; omega
      rw [hmain (by rw [this]; simp)]
      simp
    · rw [decide_eq_false hn]; rfl
  · rw [all_range]
    intro k hk
    simp only [Bool.and_eq_true]
    refine ⟨h.each k hk, ?_⟩
    by_cases h0 : k = 0
    · by_cases hm : (0 : Int) ∈ l
      · rw [decide_eq_true hm]; simp
      · rw [hmain hm]; simp
    · rw [decide_eq_false h0]; rfl
theorem jwaits_snoc {p : List Fn} : ∀ (l : List Fr) (u t : Fr), jwaitsB p (l ++ [u, t]) = (jwaitsB p (l ++ [u]) && jwaitB p u (11, t.fn))
  | [], u, t => by simp [jwaitsB]
  | [x], u, t => by simp [jwaitsB]
  | x :: y :: l, u, t => by
    have := jwaits_snoc (p := p) (y :: l) u t
    simp only [List.cons_append, jwaitsB] at this ⊢
    rw [this, Bool.and_assoc]
theorem jwaits_top {p : List Fn} (l : List Fr) (t t' : Fr) (h : t'.fn = t.fn) : jwaitsB p (l ++ [t']) = jwaitsB p (l ++ [t]) := by
  rcases List.eq_nil_or_concat l with rfl | ⟨l', u, rfl⟩
  · rfl
  · simp only [List.concat_eq_append, List.append_assoc, List.cons_append, List.nil_append]
    rw [jwaits_snoc, jwaits_snoc, h]
def FrsG (p : List Fn) (fs : List Fr) (t : Fr) : Prop := (∀ f, f ∈ fs → frameB p f = true) ∧ frameB p t = true ∧ jwaitsB p (fs ++ [t]) = true
theorem FrsG.bool {p : List Fn} {fs : List Fr} {t : Fr} : framesB p (fs ++ [t]) = true ↔ FrsG p fs t := by
  rw [framesB_iff]
  unfold FrsG
  simp only [List.all_append, List.all_cons, List.all_nil, Bool.and_true, Bool.and_eq_true, List.all_eq_true]
  exact and_assoc
theorem FrsG.turn {p : List Fn} {fs : List Fr} {t t' : Fr} (h : FrsG p fs t) (ht : frameB p t' = true) (hf : t'.fn = t.fn) : FrsG p fs t' := ⟨h.1, ht, by rw [jwaits_top _ _ _ hf]; exact h.2.2⟩
theorem FrsG.push {p : List Fn} {fs : List Fr} {t u : Fr} (h : FrsG p fs t) (hw : jwaitB p t (11, u.fn) = true) (hu : frameB p u = true) : FrsG p (fs ++ [t]) u := by
  refine ⟨fun f hf => ?_, hu, ?_⟩
  · rcases List.mem_append.1 hf with hf | hf
    · exact h.1 f hf
    · rw [List.mem_singleton.1 hf]; exact h.2.1
  · rw [List.append_assoc]
    show jwaitsB p (fs ++ [t, u]) = true
    rw [jwaits_snoc, h.2.2, hw]; rfl
theorem FrsG.pop {p : List Fn} {fs : List Fr} {t u : Fr} (h : FrsG p (fs ++ [t]) u) : FrsG p fs t ∧ jwaitB p t (11, u.fn) = true := by
  obtain ⟨h1, _, h3⟩ := h
  rw [List.append_assoc] at h3
  have h3' : jwaitsB p (fs ++ [t, u]) = true := h3
  rw [jwaits_snoc, Bool.and_eq_true] at h3'
  exact ⟨⟨fun f hf => h1 f (by simp [hf]), h1 t (by simp), h3'.1⟩, h3'.2⟩
theorem fiber_parts {p : List Fn} {fs : List Fr} {t : Fr} {c : Int} {on runs : Bool} : fiberB p ⟨fs ++ [t], c⟩ on runs = true ↔ FrsG p fs t ∧
    (if runs = true then (t.stack.length : Int) = hAt p t else if on = true then waitB p t 14 0 = true else c = -1 ∧ (freshB p ⟨fs ++ [t], c⟩ = true ∨ waitB p t 15 0 = true)) := by
  unfold fiberB
  simp only [List.getLast?_append, List.getLast?_singleton, Option.some_or, Bool.and_eq_true, FrsG.bool]
  cases runs <;> cases on <;> simp
theorem fiber_none {p : List Fn} {c : Int} {on runs : Bool} : fiberB p ⟨[], c⟩ on runs = true ↔ on = false ∧ c = -1 := by
  unfold fiberB
  simp
theorem Fb.form (b : Fb) : b = ⟨[], b.caller⟩ ∨ ∃ fs t, b = ⟨fs ++ [t], b.caller⟩ := by
  rcases List.eq_nil_or_concat b.frames with h | ⟨fs, t, h⟩
  · left; rw [← h]
  · right; exact ⟨fs, t, by rw [List.concat_eq_append] at h; rw [← h]⟩
theorem Good.on {p : List Fn} {s : St} {l : List Int} (h : Good p s l) {k : Nat} (hk : (k : Int) ∈ l) : ∃ fs t, fibAt s k = ⟨fs ++ [t], (fibAt s k).caller⟩ := by
  rcases Fb.form (fibAt s k) with e | e
  · have := h.each k (by have := h.path.inside _ hk; omega)
    rw [e, fiber_none, decide_eq_true hk] at this
    cases this.1
  · exact e
end Go.Proofs.YtohlefnljgkdcabDoor
