/-
  The contract of the reference's StateError, whole.
  The reference's BeginOf.
  The reference's RunOf; the statements' own after.
  The statements' own count, run: plain facts, by reckoning.
  The contract of state.Begin.
  The contract of the reference's SameInts, of rows as long as may be handed in.
-/
import Derived.Test.YtgdcecibfoganacDoorSR38
import Derived.Test.YtgdcecibfoganacDoorSR16
import Derived.Test.YtgdcecibfoganacDoorSR18
import Derived.Test.YtgdcecibfoganacDoorSR33
import Derived.Test.YtgdcecibfoganacDoorSR21
import Derived.Test.YtgdcecibfoganacDoorSR31
import Derived.Test.YtgdcecibfoganacDoorSR14
import Derived.Test.YtgdcecibfoganacDoorSR35

namespace Go.Proofs.YtgdcecibfoganacDoor
open Go.RowKit

/-- The reference's heights, of a right program. -/
theorem href_of {p : List Fn} {vp : Value} {w : World} (hp : ProgAt w vp p) (hz : progS p = 0) : HRef w vp p := by
  intro k u hk hu
  obtain ⟨_, _, hck⟩ := progS_right hz
  refine (refHeights_at p vp k u (hp.kept hu) (hck k hk)).mono ?_
  intro e u' h
  have hs := progS_heights hz hk
  unfold RefPost at h
  rw [hs] at h
  exact h

theorem stateError_any (p : List Fn) (vp v : Value) (s : St) (w : World) (hp : ProgAt w vp p) (hs : StAt w v s) :
    Calls Tryd.prog 12 #[vp, v] w fun e w' => e = .returned (.int .i64 (stErrS p s)) ∧ Kept w w' := by
  obtain ⟨vf, vo, rfl, hf, ho⟩ := hs
  by_cases hz : progS p = 0
  · obtain ⟨oa, cap, rfl, _, hc⟩ := id hf
    by_cases h0 : s.fibers.length = 0
    · obtain ⟨oo, co, rfl, _, _⟩ := id ho
      rw [h0]
      refine stateError_none p vp oa oo cap _ co s.now w hp hz _ ?_
      by_cases h30 : s.out.length ≤ 30
      · rw [if_pos h30, st_lim hz (lim_tail ⟨by omega, h30⟩ (fun k hk => by omega)) (by rw [if_neg (by omega)]; decide), if_neg (by omega)]
      · rw [if_neg h30, st_lim hz (lim_many (by omega)) (by decide)]
    · obtain ⟨b, o, _, rfl, -⟩ := hc 0 _ (getD_of_lt s.fibers 0 Fb.zero (by omega))
      exact stateError_go p vp s b o cap vo w hp (href_of hp hz) hz (by omega) hf ho
  · have : stErrS p s = progS p := by unfold stErrS; rw [if_neg hz]
    rw [this]
    exact stateError_prog p vp _ _ _ w hp hz
end Go.Proofs.YtgdcecibfoganacDoor

namespace Go.Proofs.YtgdcecibfoganacDoor
open Go.RowKit

/-- A state comes back. -/
def StPost (s : St) (w : World) (e : Ending) (w' : World) : Prop := ∃ v, e = .returned v ∧ StAt w' v s ∧ Kept w w'

/-- A beginning, as it lies in three blocks. -/
theorem begin_at {w : World} {b1 b2 b3 lo : Nat} (h1 : w.heap[b1]? = some (.cells (ints (List.replicate lo 0)).toArray 3)) (h2 : w.heap[b2]? = some (.cells #[.int .i64 0, .int .i64 0, .slice (some ⟨b1, 0, none⟩) lo lo, .slice none 0 0] 35))
    (h3 : w.heap[b3]? = some (.cells #[.slice (some ⟨b2, 0, none⟩) 1 1, .int .i64 (-1)] 33)) (hlo : lo ≤ 1000) :
    StAt w (.agg #[.slice (some ⟨b3, 0, none⟩) 1 1, .int .i64 0, .slice none 0 0]) ⟨[⟨[⟨0, 0, List.replicate lo 0, []⟩], -1⟩], 0, []⟩ := by
  refine ⟨_, _, rfl, ⟨some ⟨b3, 0, none⟩, 1, rfl, by simp, fun i b hb => ?_⟩, IntsW.nil _⟩
  have hi : i = 0 := by
    have := (List.getElem?_eq_some_iff.1 hb).1
    simpa using this
  subst hi
  simp at hb
  subst hb
  refine ⟨b3, 0, _, rfl, cell_at h3 rfl, cell_at h3 rfl, some ⟨b2, 0, none⟩, 1, rfl, ⟨by simp, by simp⟩, fun j f hf => ?_⟩
  have hj : j = 0 := by
    have := (List.getElem?_eq_some_iff.1 hf).1
    simpa using this
  subst hj
  simp at hf
  subst hf
  refine ⟨b2, 0, _, _, rfl, cell_at h2 rfl, cell_at h2 rfl, cell_at h2 rfl, cell_at h2 rfl, ⟨some ⟨b1, 0, none⟩, lo, by simp, by simp; omega, fun q z hz => ⟨b1, 0, rfl, ?_⟩⟩, IntsW.nil _⟩
  rw [Nat.zero_add]
  exact cell_at h1 (by rw [List.getElem?_toArray]; exact ints_get hz)

set_option maxHeartbeats 1000000 in
set_option maxRecDepth 100000 in
theorem beginOf_go (b o n cp lo : Nat) (w : World) (c1 : w.cell? ⟨b, o + 1, none⟩ = some (.int .i64 lo)) (hn : 0 < n) (hlo : lo ≤ 1000) :
    Calls Tryd.prog 23 #[.slice (some ⟨b, o, none⟩) n cp] w fun e w' => StPost ⟨[⟨[⟨0, 0, List.replicate lo 0, []⟩], -1⟩], 0, []⟩ w e w' := by
  have hmk := make_ints lo (by omega)
  have hn1 : (0 : Int) < (n : Int) := by omega
  have lb := cell_lt c1
  simp only at lb
  go_enter Tryd.func23, Tryd.ntmps23
  go_wp2
  generalize hB : w.heap.size = B0 at *
  have hrep : Array.replicate lo (Value.int .i64 0) = (ints (List.replicate lo 0)).toArray := by simp [ints]
  rw [hrep]
  generalize hw : (((w.alloc (.cells #[.slice (some ⟨B0 + 1 + 1 + 1, 0, none⟩) 1 1, .int .i64 0, .slice none 0 0] 26)).alloc (.cells (ints (List.replicate lo 0)).toArray 3)).alloc (.cells #[.int .i64 0, .int .i64 0, .slice (some ⟨B0 + 1, 0, none⟩) lo lo, .slice none 0 0] 35)).alloc (.cells #[.slice (some ⟨B0 + 1 + 1, 0, none⟩) 1 1, .int .i64 (-1)] 33) = wz
  have L0 : wz.heap[B0]? = some (.cells #[.slice (some ⟨B0 + 1 + 1 + 1, 0, none⟩) 1 1, .int .i64 0, .slice none 0 0] 26) := by rw [← hw]; exact lays_alloc (lays_alloc (lays_alloc (lays_new hB) _) _) _
  have L1 : wz.heap[B0 + 1]? = some (.cells (ints (List.replicate lo 0)).toArray 3) := by rw [← hw]; exact lays_alloc (lays_alloc (lays_new (by simp [hB])) _) _
  have L2 : wz.heap[B0 + 1 + 1]? = some (.cells #[.int .i64 0, .int .i64 0, .slice (some ⟨B0 + 1, 0, none⟩) lo lo, .slice none 0 0] 35) := by rw [← hw]; exact lays_alloc (lays_new (by simp [hB])) _
  have L3 : wz.heap[B0 + 1 + 1 + 1]? = some (.cells #[.slice (some ⟨B0 + 1 + 1, 0, none⟩) 1 1, .int .i64 (-1)] 33) := by rw [← hw]; exact lays_new (by simp [hB])
  have hk : Kept w wz := by rw [← hw]; exact ((((Kept.refl w).alloc _).alloc _).alloc _).alloc _
  have k0 : wz.cell? ⟨B0, 0, none⟩ = some (.slice (some ⟨B0 + 1 + 1 + 1, 0, none⟩) 1 1) := cell_at L0 rfl
  have k1 : wz.cell? ⟨B0, 1, none⟩ = some (.int .i64 0) := cell_at L0 rfl
  have k2 : wz.cell? ⟨B0, 2, none⟩ = some (.slice none 0 0) := cell_at L0 rfl
  refine bodyPost_ret (v := .agg #[.slice (some ⟨B0 + 1 + 1 + 1, 0, none⟩) 1 1, .int .i64 0, .slice none 0 0]) (by simp [results, Tryd.results23, go_sem, k0, k1, k2]) rfl ?_
  exact ⟨_, rfl, begin_at L1 L2 L3 hlo, hk⟩

/-- BeginOf, of a right program. -/
theorem beginOf_any (p : List Fn) (vp : Value) (w : World) (hp : ProgAt w vp p) (hz : progS p = 0) :
    Calls Tryd.prog 23 #[vp] w fun e w' => StPost (beginS p) w e w' := by
  obtain ⟨_, hp0, hck⟩ := progS_right hz
  obtain ⟨oa, cp, rfl, _, hcell⟩ := id hp
  obtain ⟨b, o, cv, rfl, _, c1, _, _⟩ := hcell 0 _ (getD_of_lt p 0 Fn.zero hp0)
  have hroom : 0 ≤ (p.getD 0 Fn.zero).locals ∧ (p.getD 0 Fn.zero).locals ≤ 4 := by
    obtain ⟨i, hi, _, _, hr, _⟩ := chkS_zero (hck 0 hp0)
    obtain rfl : i = 0 := by omega
    have := roomB_iff.1 hr
    omega
  obtain ⟨lo, hlo⟩ : ∃ lo : Nat, (p.getD 0 Fn.zero).locals = lo := ⟨(p.getD 0 Fn.zero).locals.toNat, by omega⟩
  unfold beginS
  rw [hlo] at c1 hroom ⊢
  rw [Int.toNat_natCast]
  exact beginOf_go b o _ cp lo w (by simpa using c1) hp0 (by omega)
end Go.Proofs.YtgdcecibfoganacDoor

namespace Go.Proofs.YtgdcecibfoganacDoor
open Go.RowKit

set_option maxRecDepth 100000 in
set_option maxHeartbeats 2000000 in
/-- RunOf, of a right state that may go on so far. -/
theorem runOf_on (p : List Fn) (s : St) (vp v : Value) (fuel : Nat) (w : World) (hp : ProgAt w vp p) (hs : StAt w v s) (hsm : Small s) (hf : fuel ≤ 500) (hz : stErrS p s = 0) (hok : runOk p fuel s) :
    Calls Tryd.prog 41 #[vp, v, .int .i64 fuel] w (RunPost (runS p fuel s) w) := by
  obtain ⟨oa, cp, rfl, _, _⟩ := id hp
  have HP := hide hp
  have HS := hide hs
  obtain ⟨vf, vo, rfl, hF, hO⟩ := hs
  obtain ⟨oF, cF, rfl, _, _⟩ := hF
  obtain ⟨oO, cO, rfl, _, _⟩ := hO
  have HOK := hide hok
  have HSM := hide hsm
  have HZ := hide hz
  have hin : inB (fuel : Int) 0 500 = true := inB_true (by omega) (by omega)
  clear hp hok hsm hz
  generalize hR0 : runS p fuel s = RR
  have HRR := hide hR0
  clear hR0
  go_enter Tryd.func41, Tryd.ntmps41
  go_wp2_with (go_at_call 27; refine (within_any _ _ _ _).mono ?_; rw [hin]; rintro e w' ⟨rfl, rfl⟩)
  generalize hw1 : (w.alloc (.cells #[.slice oF s.fibers.length cF, .int .i64 s.now, .slice oO s.out.length cO] 26)).alloc (.cells #[.slice none 0 0, .int .i64 0, .slice none 0 0] 26) = w1
  have LA : w1.heap[w.heap.size]? = some (.cells #[.slice oF s.fibers.length cF, .int .i64 s.now, .slice oO s.out.length cO] 26) := by rw [← hw1]; exact lays_alloc (lays_new rfl) _
  have LR : w1.heap[w.heap.size + 1]? = some (.cells #[.slice none 0 0, .int .i64 0, .slice none 0 0] 26) := by rw [← hw1]; exact lays_new (by simp)
  have hk1 : Kept w w1 := by rw [← hw1]; exact ((Kept.refl w).alloc _).alloc _
  have hs1 : w1.heap.size = w.heap.size + 2 := by rw [← hw1]; simp
  have HE := hide (stateError_any p _ _ s w1 ((unhide HP).kept hk1) ((unhide HS).kept hk1))
  have HK1 := hide hk1
  have HLA := hide LA
  have HLR := hide LR
  have HSZ := hide hs1
  clear hw1 hk1 hs1 LA LR
  refine (unhide HE).mono ?_
  rintro _ w2 ⟨rfl, hk2⟩
  rw [unhide HZ]
  have hk12 := (unhide HK1).trans hk2
  have a0 := cell_lays (lays_kept hk2 (unhide HLA)) 0
  have a1 := cell_lays (lays_kept hk2 (unhide HLA)) 1
  have a2 := cell_lays (lays_kept hk2 (unhide HLA)) 2
  have HLR2 := hide (lays_kept hk2 (unhide HLR))
  have hrc := run_any p s _ _ fuel w2 ((unhide HP).kept hk12) ((unhide HS).kept hk12) (unhide HSM) hf (unhide HOK)
  rw [unhide HRR] at hrc
  have HC := hide hrc
  clear hrc
  have HK2 := hide hk12
  have HG := hide hk2.size
  clear hk2 hk12 HE
  go_wp2_with fail
  refine (unhide HC).mono ?_
  rintro _ w3 ⟨V, rfl, ho3, hk3⟩
  obtain ⟨xsF, hrF, _⟩ := ho3.piece .fibers trivial
  obtain ⟨oX, cX, hVf, _⟩ := row_slice hrF
  have hrO : _ := ho3.piece .out trivial
  obtain ⟨oY, cY, hVo, _⟩ := row_slice hrO
  have LR3 := lays_kept hk3 (unhide HLR2)
  generalize hR2 : w.heap.size + 1 = R2 at *
  have r0 := cell_lays LR3 0
  have r1 := cell_lays LR3 1
  have r2 := cell_lays LR3 2
  have f0 := frozen_lays LR3 0
  have f1 := frozen_lays LR3 1
  have f2 := frozen_lays LR3 2
  have HLZ := hide (lay3 (x := .slice oX RR.1.fibers.length cX) (y := .int .i64 RR.1.now) (z := .slice oY RR.1.out.length cY) LR3)
  have HVF := hide hVf
  have HVO := hide hVo
  have HO3 := hide ho3
  have HK3 := hide ((unhide HK2).trans hk3)
  have HRZ : Hid (w.heap.size + 1 = R2 ∧ w2.heap.size ≥ w.heap.size + 2) := hide ⟨hR2, by have := unhide HG; have := unhide HSZ; omega⟩
  rw [hVf, hVo]
  clear ho3 hk3 hrF hrO hVf hVo LR3 HC a0 a1 a2 hR2
  go_wp2_with fail
  have k0 := cell_lays (unhide HLZ) 0
  have k1 := cell_lays (unhide HLZ) 1
  have k2 := cell_lays (unhide HLZ) 2
  have hwR : w.heap.size ≤ R2 := by have := unhide HRZ; omega
  have hkf : Kept w (((w3.setCell ⟨R2, 0, none⟩ (.slice oX RR.1.fibers.length cX)).setCell ⟨R2, 1, none⟩ (.int .i64 RR.1.now)).setCell ⟨R2, 2, none⟩ (.slice oY RR.1.out.length cY)) := (((unhide HK3).setCell (p := ⟨R2, 0, none⟩) hwR _).setCell (p := ⟨R2, 1, none⟩) hwR _).setCell (p := ⟨R2, 2, none⟩) hwR _
  have hwf : ∀ (y : Nat), w2.heap.size ≤ y → (((w3.setCell ⟨R2, 0, none⟩ (.slice oX RR.1.fibers.length cX)).setCell ⟨R2, 1, none⟩ (.int .i64 RR.1.now)).setCell ⟨R2, 2, none⟩ (.slice oY RR.1.out.length cY)).heap[y]? = w3.heap[y]? := fun y hy => by
    have := unhide HRZ
    rw [Below.heap_setCell _ _ _ _ (by simp only; omega), Below.heap_setCell _ _ _ _ (by simp only; omega), Below.heap_setCell _ _ _ _ (by simp only; omega)]
  refine bodyPost_ret (v := .tuple #[.agg #[.slice oX RR.1.fibers.length cX, .int .i64 RR.1.now, .slice oY RR.1.out.length cY], .int .i64 RR.2.1, .int .i64 RR.2.2]) (by simp [results, Tryd.results41, go_sem, k0, k1, k2]) rfl ?_
  exact ⟨V, by rw [unhide HVF, unhide HVO], Own.base (base := w2.heap.size) ((unhide HO3).same (fun kk g hkk hg => hwf g (((unhide HO3).piece kk hkk).block g hg).1)) (by have := unhide HRZ; omega), hkf⟩

set_option maxRecDepth 100000 in
set_option maxHeartbeats 2000000 in
/-- after, of a right program that may go on so far. -/
theorem after_on (p : List Fn) (vp : Value) (fuel : Nat) (w : World) (hp : ProgAt w vp p) (hpz : progS p = 0) (hsm : Small (beginS p)) (hf : fuel ≤ 500) (hz : stErrS p (beginS p) = 0) (hok : runOk p fuel (beginS p)) :
    Calls Tryd.prog 21 #[vp, .int .i64 fuel] w (OwnPost (runS p fuel (beginS p)).1 w) := by
  obtain ⟨oa, cp, rfl, _, _⟩ := id hp
  have HP := hide hp
  have HOK := hide hok
  have HSM := hide hsm
  have HZ := hide hz
  have HPZ := hide hpz
  clear hp hok hsm hz hpz
  generalize hR0 : runS p fuel (beginS p) = RR
  have HRR := hide hR0
  clear hR0
  go_enter Tryd.func21, Tryd.ntmps21
  go_wp2_with fail
  generalize hw1 : w.alloc (.cells #[.slice none 0 0, .int .i64 0, .slice none 0 0] 26) = w1
  have LR : w1.heap[w.heap.size]? = some (.cells #[.slice none 0 0, .int .i64 0, .slice none 0 0] 26) := by rw [← hw1]; exact lays_new rfl
  have hk1 : Kept w w1 := by rw [← hw1]; exact (Kept.refl w).alloc _
  have hs1 : w1.heap.size = w.heap.size + 1 := by rw [← hw1]; simp
  have HB := hide (beginOf_any p _ w1 ((unhide HP).kept hk1) (unhide HPZ))
  have HK1 := hide hk1
  have HLR := hide LR
  have HSZ := hide hs1
  clear hw1 hk1 hs1 LR
  refine (unhide HB).mono ?_
  rintro _ w2 ⟨vb, rfl, hst2, hk2⟩
  obtain ⟨vf, vo, rfl, hF, hO⟩ := id hst2
  obtain ⟨oF, cF, rfl, _, _⟩ := hF
  obtain ⟨oO, cO, rfl, _, _⟩ := hO
  have hrc := runOf_on p (beginS p) _ _ fuel w2 ((unhide HP).kept ((unhide HK1).trans hk2)) hst2 (unhide HSM) hf (unhide HZ) (unhide HOK)
  rw [unhide HRR] at hrc
  have HC := hide hrc
  clear hrc
  have HK2 := hide ((unhide HK1).trans hk2)
  have HLR2 := hide (lays_kept hk2 (unhide HLR))
  have HG := hide hk2.size
  clear hk2 hst2 HB
  go_wp2_with fail
  refine (unhide HC).mono ?_
  rintro _ w3 ⟨V, rfl, ho3, hk3⟩
  obtain ⟨xsF, hrF, _⟩ := ho3.piece .fibers trivial
  obtain ⟨oX, cX, hVf, _⟩ := row_slice hrF
  have hrO : _ := ho3.piece .out trivial
  obtain ⟨oY, cY, hVo, _⟩ := row_slice hrO
  rw [hVf, hVo]
  have LR3 := lays_kept hk3 (unhide HLR2)
  have HVF := hide hVf
  have HVO := hide hVo
  have HO3 := hide ho3
  have HK3 := hide ((unhide HK2).trans hk3)
  have HG3 := hide hk3.size
  clear hrF hrO hVf hVo HC hk3
  go_upto_region 2 with fail
  generalize hw4 : w3.alloc (.cells #[.slice oX RR.1.fibers.length cX, .int .i64 RR.1.now, .slice oY RR.1.out.length cY] 26) = w4
  have hk4 : Kept w3 w4 := by rw [← hw4]; exact (Kept.refl w3).alloc _
  have hB : w4.heap[w3.heap.size]? = some (.cells #[.slice oX RR.1.fibers.length cX, .int .i64 RR.1.now, .slice oY RR.1.out.length cY] 26) := by rw [← hw4]; exact lays_new rfl
  have LR4 := lays_kept hk4 LR3
  have HO4 := hide (show Own w2.heap.size w4 V RR.1 from (unhide HO3).same (fun kk g hkk hg => hk4.block g (((unhide HO3).piece kk hkk).block g hg).2))
  have HK4 := hide ((unhide HK3).trans hk4)
  generalize hR2 : w.heap.size = R2 at *
  have r0 := cell_lays LR4 0
  have r1 := cell_lays LR4 1
  have r2 := cell_lays LR4 2
  have f0 := frozen_lays LR4 0
  have f1 := frozen_lays LR4 1
  have f2 := frozen_lays LR4 2
  have b0 := cell_lays hB 0
  have b1 := cell_lays hB 1
  have b2 := cell_lays hB 2
  have HLZ := hide (lay3 (x := .slice oX RR.1.fibers.length cX) (y := .int .i64 RR.1.now) (z := .slice oY RR.1.out.length cY) LR4)
  have HRZ : Hid (w.heap.size = R2 ∧ w2.heap.size ≥ w.heap.size + 1) := hide ⟨hR2, by have := unhide HG; have := unhide HSZ; omega⟩
  clear hw4 hk4 hB LR4 LR3 hR2 HO3 HK3 ho3
  go_wp2_with fail
  have k0 := cell_lays (unhide HLZ) 0
  have k1 := cell_lays (unhide HLZ) 1
  have k2 := cell_lays (unhide HLZ) 2
  have hwR : w.heap.size ≤ R2 := by have := unhide HRZ; omega
  have hkf : Kept w (((w4.setCell ⟨R2, 0, none⟩ (.slice oX RR.1.fibers.length cX)).setCell ⟨R2, 1, none⟩ (.int .i64 RR.1.now)).setCell ⟨R2, 2, none⟩ (.slice oY RR.1.out.length cY)) := (((unhide HK4).setCell (p := ⟨R2, 0, none⟩) hwR _).setCell (p := ⟨R2, 1, none⟩) hwR _).setCell (p := ⟨R2, 2, none⟩) hwR _
  have hwf : ∀ (y : Nat), w2.heap.size ≤ y → (((w4.setCell ⟨R2, 0, none⟩ (.slice oX RR.1.fibers.length cX)).setCell ⟨R2, 1, none⟩ (.int .i64 RR.1.now)).setCell ⟨R2, 2, none⟩ (.slice oY RR.1.out.length cY)).heap[y]? = w4.heap[y]? := fun y hy => by
    have := unhide HRZ
    rw [Below.heap_setCell _ _ _ _ (by simp only; omega), Below.heap_setCell _ _ _ _ (by simp only; omega), Below.heap_setCell _ _ _ _ (by simp only; omega)]
  refine bodyPost_ret (v := .agg #[.slice oX RR.1.fibers.length cX, .int .i64 RR.1.now, .slice oY RR.1.out.length cY]) (by simp [results, Tryd.results21, go_sem, k0, k1, k2]) rfl ?_
  exact ⟨V, by rw [unhide HVF, unhide HVO], Own.base (base := w2.heap.size) ((unhide HO4).same (fun kk g hkk hg => hwf g (((unhide HO4).piece kk hkk).block g hg).1)) (by have := unhide HRZ; omega), hkf⟩
end Go.Proofs.YtgdcecibfoganacDoor

namespace Go.Proofs.YtgdcecibfoganacDoor
open Go.RowKit

theorem cnt_right : progS cntL = 0 := by decide +kernel
theorem cnt_small : Small (beginS cntL) := by decide +kernel
theorem cnt_begin : stErrS cntL (beginS cntL) = 0 := by decide +kernel
theorem cnt_1 : runOk cntL 1 (beginS cntL) := by decide +kernel
theorem cnt_6 : runOk cntL 6 (beginS cntL) := by decide +kernel
theorem cnt_7 : runOk cntL 7 (beginS cntL) := by decide +kernel
theorem cnt_99 : runOk cntL 99 (beginS cntL) := by decide +kernel
end Go.Proofs.YtgdcecibfoganacDoor

namespace Go.Proofs.YtgdcecibfoganacDoor
open Go.RowKit

/-- Begin: a state, and an error. -/
def BegPost (p : List Fn) (w : World) (e : Ending) (w' : World) : Prop :=
  ∃ v, e = .returned (.tuple #[v, .int .i64 (progS p)]) ∧ StAt w' v (if progS p = 0 then beginS p else St.zero) ∧ Kept w w'
theorem zero_at (w : World) : StAt w (.agg #[.slice none 0 0, .int .i64 0, .slice none 0 0]) St.zero := ⟨_, _, rfl, FibersAt.nil _, IntsW.nil _⟩

set_option maxHeartbeats 1000000 in
set_option maxRecDepth 100000 in
theorem begin_bad (p : List Fn) (vp : Value) (w : World) (hp : ProgAt w vp p) (hk : KindsAt w) (hz : progS p ≠ 0) :
    Calls Tryd.prog 19 #[vp] w fun e w' => BegPost p w e w' := by
  have hc : ∀ u, Kept w u → Calls Tryd.prog 17 #[vp] u fun e w' => e = .returned (.int .i64 (progS p)) ∧ Kept u w' := fun u hu => progCheck_any p vp u (hp.kept hu) (hk.kept hu)
  have hzb : (progS p != 0) = true := by rw [bne_iff_ne]; exact hz
  have hif : (if progS p = 0 then beginS p else St.zero) = St.zero := if_neg hz
  unfold BegPost
  rw [hif]
  have HC := hide hc
  generalize progS p = r at *
  clear hc hp hk hz hif
  go_enter Tryd.func19, Tryd.ntmps19
  go_wp2_with fail
  refine ((unhide HC) _ ((Kept.refl w).alloc _)).mono ?_
  rintro e w1 ⟨rfl, hk1⟩
  have L0 : w1.heap[w.heap.size]? = some (.cells #[.slice none 0 0, .int .i64 0, .slice none 0 0] 26) := lays_kept hk1 (lays_new rfl)
  have a0 : w1.cell? ⟨w.heap.size, 0, none⟩ = some (.slice none 0 0) := cell_at L0 rfl
  have a1 : w1.cell? ⟨w.heap.size, 1, none⟩ = some (.int .i64 0) := cell_at L0 rfl
  have a2 : w1.cell? ⟨w.heap.size, 2, none⟩ = some (.slice none 0 0) := cell_at L0 rfl
  have f0 := frozen_lays L0 0
  have f1 := frozen_lays L0 1
  have f2 := frozen_lays L0 2
  have HL := hide L0
  have HK1 := hide (((Kept.refl w).alloc _).trans hk1)
  clear L0 hk1
  go_wp2
  have M0 := lays_set (lays_set (lays_set (unhide HL) 0 (.slice none 0 0)) 1 (.int .i64 0)) 2 (.slice none 0 0)
  have HKw := hide (((((unhide HK1).setCell (p := ⟨w.heap.size, 0, none⟩) (Nat.le_refl _) (.slice none 0 0)).setCell (p := ⟨w.heap.size, 1, none⟩) (Nat.le_refl _) (.int .i64 0)).setCell (p := ⟨w.heap.size, 2, none⟩) (Nat.le_refl _) (.slice none 0 0)))
  generalize ((w1.setCell ⟨w.heap.size, 0, none⟩ (.slice none 0 0)).setCell ⟨w.heap.size, 1, none⟩ (.int .i64 0)).setCell ⟨w.heap.size, 2, none⟩ (.slice none 0 0) = w2 at *
  have k0 : w2.cell? ⟨w.heap.size, 0, none⟩ = some (.slice none 0 0) := cell_at M0 (by simp)
  have k1 : w2.cell? ⟨w.heap.size, 1, none⟩ = some (.int .i64 0) := cell_at M0 (by simp)
  have k2 : w2.cell? ⟨w.heap.size, 2, none⟩ = some (.slice none 0 0) := cell_at M0 (by simp)
  refine bodyPost_ret (v := .tuple #[.agg #[.slice none 0 0, .int .i64 0, .slice none 0 0], .int .i64 r]) (by simp [results, Tryd.results19, go_sem, k0, k1, k2]) rfl ?_
  exact ⟨_, rfl, zero_at _, unhide HKw⟩

set_option maxHeartbeats 1000000 in
set_option maxRecDepth 100000 in
theorem begin_go (p : List Fn) (b o n cp lo : Nat) (w : World) (hp : ProgAt w (.slice (some ⟨b, o, none⟩) n cp) p) (hk : KindsAt w) (hz : progS p = 0)
    (c1 : w.cell? ⟨b, o + 1, none⟩ = some (.int .i64 lo)) (hn : 0 < n) (hlo : lo ≤ 1000) :
    Calls Tryd.prog 19 #[.slice (some ⟨b, o, none⟩) n cp] w fun e w' => ∃ v, e = .returned (.tuple #[v, .int .i64 0]) ∧ StAt w' v ⟨[⟨[⟨0, 0, List.replicate lo 0, []⟩], -1⟩], 0, []⟩ ∧ Kept w w' := by
  have hc : ∀ u, Kept w u → Calls Tryd.prog 17 #[.slice (some ⟨b, o, none⟩) n cp] u fun e w' => e = .returned (.int .i64 0) ∧ Kept u w' := fun u hu => by
    have := progCheck_any p _ u (hp.kept hu) (hk.kept hu)
    rwa [hz] at this
  have HC := hide hc
  have hmk := make_ints lo (by omega)
  have hn1 : (0 : Int) < (n : Int) := by omega
  have HC1 := hide c1
  have lb := cell_lt c1
  simp only at lb
  clear hc hp hk hz c1
  go_enter Tryd.func19, Tryd.ntmps19
  go_wp2_with fail
  refine ((unhide HC) _ ((Kept.refl w).alloc _)).mono ?_
  rintro e w1 ⟨rfl, hk1⟩
  have L0 : w1.heap[w.heap.size]? = some (.cells #[.slice none 0 0, .int .i64 0, .slice none 0 0] 26) := lays_kept hk1 (lays_new rfl)
  have c1 : w1.cell? ⟨b, o + 1, none⟩ = some (.int .i64 lo) := (((Kept.refl w).alloc _).trans hk1).cell (unhide HC1)
  have a0 : w1.cell? ⟨w.heap.size, 0, none⟩ = some (.slice none 0 0) := cell_at L0 rfl
  have a1 : w1.cell? ⟨w.heap.size, 1, none⟩ = some (.int .i64 0) := cell_at L0 rfl
  have a2 : w1.cell? ⟨w.heap.size, 2, none⟩ = some (.slice none 0 0) := cell_at L0 rfl
  have f0 := frozen_lays L0 0
  have f1 := frozen_lays L0 1
  have f2 := frozen_lays L0 2
  have HL := hide L0
  have HK1 := hide (((Kept.refl w).alloc _).trans hk1)
  have l1 : w.heap.size < w1.heap.size := (Array.getElem?_eq_some_iff.1 L0).1
  have lb1 : b < w1.heap.size := by omega
  have g0 : ∀ o1 o2 o3 o4, ((((w1.alloc o1).alloc o2).alloc o3).alloc o4).cell? ⟨w.heap.size, 0, none⟩ = some (.slice none 0 0) := fun o1 o2 o3 o4 => cell_at (lays_alloc (lays_alloc (lays_alloc (lays_alloc L0 o1) o2) o3) o4) rfl
  have h0 : ∀ o1 o2 o3 o4, ((((w1.alloc o1).alloc o2).alloc o3).alloc o4).frozen? ⟨w.heap.size, 0, none⟩ = false := fun o1 o2 o3 o4 => frozen_lays (lays_alloc (lays_alloc (lays_alloc (lays_alloc L0 o1) o2) o3) o4) 0
  have g1 : ∀ o1 o2 o3 o4, ((((w1.alloc o1).alloc o2).alloc o3).alloc o4).cell? ⟨w.heap.size, 1, none⟩ = some (.int .i64 0) := fun o1 o2 o3 o4 => cell_at (lays_alloc (lays_alloc (lays_alloc (lays_alloc L0 o1) o2) o3) o4) rfl
  have h1 : ∀ o1 o2 o3 o4, ((((w1.alloc o1).alloc o2).alloc o3).alloc o4).frozen? ⟨w.heap.size, 1, none⟩ = false := fun o1 o2 o3 o4 => frozen_lays (lays_alloc (lays_alloc (lays_alloc (lays_alloc L0 o1) o2) o3) o4) 1
  have g2 : ∀ o1 o2 o3 o4, ((((w1.alloc o1).alloc o2).alloc o3).alloc o4).cell? ⟨w.heap.size, 2, none⟩ = some (.slice none 0 0) := fun o1 o2 o3 o4 => cell_at (lays_alloc (lays_alloc (lays_alloc (lays_alloc L0 o1) o2) o3) o4) rfl
  have h2 : ∀ o1 o2 o3 o4, ((((w1.alloc o1).alloc o2).alloc o3).alloc o4).frozen? ⟨w.heap.size, 2, none⟩ = false := fun o1 o2 o3 o4 => frozen_lays (lays_alloc (lays_alloc (lays_alloc (lays_alloc L0 o1) o2) o3) o4) 2
  clear L0 hk1
  go_wp2
  have hrep : Array.replicate lo (Value.int .i64 0) = (ints (List.replicate lo 0)).toArray := by simp [ints]
  rw [hrep]
  generalize hB : w1.heap.size = B1 at *
  generalize hA : w.heap.size = A0 at *
  have N1 : ((((w1.alloc (.cells (ints (List.replicate lo 0)).toArray 3)).alloc (.cells #[.int .i64 0, .int .i64 0, .slice (some ⟨B1, 0, none⟩) lo lo, .slice none 0 0] 35)).alloc (.cells #[.int .i64 0, .int .i64 0, .slice (some ⟨B1, 0, none⟩) lo lo, .slice none 0 0] 35)).alloc (.cells #[.slice (some ⟨B1 + 1 + 1, 0, none⟩) 1 1, .int .i64 (-1)] 33)).heap[B1]? = some (.cells (ints (List.replicate lo 0)).toArray 3) := lays_alloc (lays_alloc (lays_alloc (lays_new hB) _) _) _
  have N2 : ((((w1.alloc (.cells (ints (List.replicate lo 0)).toArray 3)).alloc (.cells #[.int .i64 0, .int .i64 0, .slice (some ⟨B1, 0, none⟩) lo lo, .slice none 0 0] 35)).alloc (.cells #[.int .i64 0, .int .i64 0, .slice (some ⟨B1, 0, none⟩) lo lo, .slice none 0 0] 35)).alloc (.cells #[.slice (some ⟨B1 + 1 + 1, 0, none⟩) 1 1, .int .i64 (-1)] 33)).heap[B1 + 1 + 1]? = some (.cells #[.int .i64 0, .int .i64 0, .slice (some ⟨B1, 0, none⟩) lo lo, .slice none 0 0] 35) := lays_alloc (lays_new (by simp [hB])) _
  have N3 : ((((w1.alloc (.cells (ints (List.replicate lo 0)).toArray 3)).alloc (.cells #[.int .i64 0, .int .i64 0, .slice (some ⟨B1, 0, none⟩) lo lo, .slice none 0 0] 35)).alloc (.cells #[.int .i64 0, .int .i64 0, .slice (some ⟨B1, 0, none⟩) lo lo, .slice none 0 0] 35)).alloc (.cells #[.slice (some ⟨B1 + 1 + 1, 0, none⟩) 1 1, .int .i64 (-1)] 33)).heap[B1 + 1 + 1 + 1]? = some (.cells #[.slice (some ⟨B1 + 1 + 1, 0, none⟩) 1 1, .int .i64 (-1)] 33) := lays_new (by simp [hB])
  have N0 := lays_alloc (lays_alloc (lays_alloc (lays_alloc (unhide HL) (.cells (ints (List.replicate lo 0)).toArray 3)) (.cells #[.int .i64 0, .int .i64 0, .slice (some ⟨B1, 0, none⟩) lo lo, .slice none 0 0] 35)) (.cells #[.int .i64 0, .int .i64 0, .slice (some ⟨B1, 0, none⟩) lo lo, .slice none 0 0] 35)) (.cells #[.slice (some ⟨B1 + 1 + 1, 0, none⟩) 1 1, .int .i64 (-1)] 33)
  have NK := ((((unhide HK1).alloc (.cells (ints (List.replicate lo 0)).toArray 3)).alloc (.cells #[.int .i64 0, .int .i64 0, .slice (some ⟨B1, 0, none⟩) lo lo, .slice none 0 0] 35)).alloc (.cells #[.int .i64 0, .int .i64 0, .slice (some ⟨B1, 0, none⟩) lo lo, .slice none 0 0] 35)).alloc (.cells #[.slice (some ⟨B1 + 1 + 1, 0, none⟩) 1 1, .int .i64 (-1)] 33)
  clear g0 g1 g2 h0 h1 h2
  generalize (((w1.alloc (.cells (ints (List.replicate lo 0)).toArray 3)).alloc (.cells #[.int .i64 0, .int .i64 0, .slice (some ⟨B1, 0, none⟩) lo lo, .slice none 0 0] 35)).alloc (.cells #[.int .i64 0, .int .i64 0, .slice (some ⟨B1, 0, none⟩) lo lo, .slice none 0 0] 35)).alloc (.cells #[.slice (some ⟨B1 + 1 + 1, 0, none⟩) 1 1, .int .i64 (-1)] 33) = wz at *
  have far : ∀ {bb : Nat} {ob : Obj}, A0 < bb → wz.heap[bb]? = some ob → (((wz.setCell ⟨A0, 0, none⟩ (.slice (some ⟨B1 + 1 + 1 + 1, 0, none⟩) 1 1)).setCell ⟨A0, 1, none⟩ (.int .i64 0)).setCell ⟨A0, 2, none⟩ (.slice none 0 0)).heap[bb]? = some ob := fun hlt h =>
    lays_other (lays_other (lays_other h (a := ⟨A0, 0, none⟩) (Nat.ne_of_gt hlt) _) (a := ⟨A0, 1, none⟩) (Nat.ne_of_gt hlt) _) (a := ⟨A0, 2, none⟩) (Nat.ne_of_gt hlt) _
  have R1 := far l1 N1
  have R2 := far (by omega) N2
  have R3 := far (by omega) N3
  have M0 := lays_set (lays_set (lays_set N0 0 (.slice (some ⟨B1 + 1 + 1 + 1, 0, none⟩) 1 1)) 1 (.int .i64 0)) 2 (.slice none 0 0)
  have hle : w.heap.size ≤ A0 := by omega
  have HKw := hide (((NK.setCell (p := ⟨A0, 0, none⟩) hle (.slice (some ⟨B1 + 1 + 1 + 1, 0, none⟩) 1 1)).setCell (p := ⟨A0, 1, none⟩) hle (.int .i64 0)).setCell (p := ⟨A0, 2, none⟩) hle (.slice none 0 0))
  clear far N0 N1 N2 N3 NK
  generalize ((wz.setCell ⟨A0, 0, none⟩ (.slice (some ⟨B1 + 1 + 1 + 1, 0, none⟩) 1 1)).setCell ⟨A0, 1, none⟩ (.int .i64 0)).setCell ⟨A0, 2, none⟩ (.slice none 0 0) = w2 at *
  have k0 : w2.cell? ⟨A0, 0, none⟩ = some (.slice (some ⟨B1 + 1 + 1 + 1, 0, none⟩) 1 1) := cell_at M0 (by simp)
  have k1 : w2.cell? ⟨A0, 1, none⟩ = some (.int .i64 0) := cell_at M0 (by simp)
  have k2 : w2.cell? ⟨A0, 2, none⟩ = some (.slice none 0 0) := cell_at M0 (by simp)
  refine bodyPost_ret (v := .tuple #[.agg #[.slice (some ⟨B1 + 1 + 1 + 1, 0, none⟩) 1 1, .int .i64 0, .slice none 0 0], .int .i64 0]) (by simp [results, Tryd.results19, go_sem, k0, k1, k2]) rfl ?_
  exact ⟨_, rfl, begin_at R1 R2 R3 hlo, unhide HKw⟩

/-- Begin, whatever it is handed. -/
theorem stBegin_any (p : List Fn) (vp : Value) (w : World) (hp : ProgAt w vp p) (hk : KindsAt w) :
    Calls Tryd.prog 19 #[vp] w fun e w' => BegPost p w e w' := by
  by_cases hz : progS p = 0
  · unfold BegPost
    rw [if_pos hz, hz]
    obtain ⟨_, hp0, hck⟩ := progS_right hz
    obtain ⟨oa, cp, rfl, _, hcell⟩ := id hp
    obtain ⟨b, o, cv, rfl, _, c1, _, _⟩ := hcell 0 _ (getD_of_lt p 0 Fn.zero hp0)
    have hroom : 0 ≤ (p.getD 0 Fn.zero).locals ∧ (p.getD 0 Fn.zero).locals ≤ 4 := by
      obtain ⟨i, hi, _, _, hr, _⟩ := chkS_zero (hck 0 hp0)
      obtain rfl : i = 0 := by omega
      have := roomB_iff.1 hr
      omega
    obtain ⟨lo, hlo⟩ : ∃ lo : Nat, (p.getD 0 Fn.zero).locals = lo := ⟨(p.getD 0 Fn.zero).locals.toNat, by omega⟩
    unfold beginS
    rw [hlo] at c1 hroom ⊢
    rw [Int.toNat_natCast]
    exact begin_go p b o _ cp lo w hp hk hz (by simpa using c1) hp0 (by omega)
  · exact begin_bad p vp w hp hk hz
end Go.Proofs.YtgdcecibfoganacDoor

namespace Go.Proofs.YtgdcecibfoganacDoor
open Go.RowKit

set_option maxHeartbeats 1000000 in
theorem sameInts_w (l1 l2 : List Int) (v1 v2 : Value) (w : World) (h1 : IntsW w v1 l1) (h2 : IntsW w v2 l2) :
    Calls Tryd.prog 16 #[v1, v2] w fun e w' => e = .returned (.bool (decide (l1 = l2))) ∧ Kept w w' := by
  obtain ⟨oa, ca, rfl, n1, i1⟩ := h1
  obtain ⟨ob, cb, rfl, n2, i2⟩ := h2
  by_cases hl : l1.length = l2.length
  · have HI1 := hide i1
    have HI2 := hide i2
    have HL := hide hl
    have hl' : ((l1.length : Int) != (l2.length : Int)) = false := by rw [hl]; simp
    clear i1 i2 hl
    go_enter Tryd.func16, Tryd.ntmps16
    go_wp2
    go_loopw [5] (fun s5 wr => ∃ k : Nat, k ≤ l1.length ∧ s5 = .int .i64 k ∧ Hid (∀ i, i < k → l1.getD i 0 = l2.getD i 0) ∧ Hid (Kept w wr)) (fun s5 _ => l1.length - (intOf s5).toNat)
    case atStart => exact ⟨0, Nat.zero_le _, rfl, (fun i hi => by omega), Kept.refl _⟩
    case round =>
      obtain ⟨k, hkm, rfl, HA, HKr⟩ := hrel
      by_cases hlt : k < l1.length
      · have hlt2 : k < l2.length := by have := unhide HL; omega
        obtain ⟨b1, o1, e1, c1⟩ := (unhide HI1) k _ (getD_of_lt l1 k 0 hlt)
        obtain ⟨b2, o2, e2, c2⟩ := (unhide HI2) k _ (getD_of_lt l2 k 0 hlt2)
        have d1 := (unhide HKr).cell c1
        have d2 := (unhide HKr).cell c2
        generalize hz1 : l1.getD k 0 = z1 at *
        generalize hz2 : l2.getD k 0 = z2 at *
        have Z1 := hide hz1
        have Z2 := hide hz2
        subst e1 e2
        clear c1 c2 hz1 hz2
        by_cases hz : z1 = z2
        · have hzb : (z1 != z2) = false := by rw [hz]; simp
          have HZ := hide hz
          clear hz
          go_wp2
          go_quiet (fail)
          go_wp2
          go_roundw
          case rel =>
            refine ⟨k + 1, by omega, by go_num, ?_, (unhide HKr).drewN _⟩
            intro i hi
            by_cases e : i = k
            · subst e; rw [unhide Z1, unhide Z2, unhide HZ]
            · exact (unhide HA) i (by omega)
          case measure => simp [intOf]; omega
        · have hzb : (z1 != z2) = true := by rw [bne_iff_ne]; exact hz
          have HZ := hide hz
          clear hz
          go_wp2
          go_quiet (fail)
          go_wp2
          go_ret
          refine ⟨?_, (unhide HKr).drewN _⟩
          rw [decide_eq_false]
          · rfl
          · intro e
            apply unhide HZ
            rw [← unhide Z1, ← unhide Z2, e]
      · go_wp2
        go_ret
        refine ⟨?_, unhide HKr⟩
        rw [decide_eq_true]
        · rfl
        · exact sameFrom (unhide HL) (fun i hi => (unhide HA) i (by omega))
  · have hl' : ((l1.length : Int) != (l2.length : Int)) = true := by rw [bne_iff_ne]; omega
    have HL := hide hl
    clear i1 i2 hl
    go_enter Tryd.func16, Tryd.ntmps16
    go_wp2
    go_ret
    refine ⟨?_, Kept.refl _⟩
    rw [decide_eq_false]
    · rfl
    · intro e; exact (unhide HL) (by rw [e])
end Go.Proofs.YtgdcecibfoganacDoor
