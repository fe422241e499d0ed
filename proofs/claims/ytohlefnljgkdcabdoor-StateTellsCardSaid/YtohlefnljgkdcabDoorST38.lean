/- SameS, StateBa, StateBb, StateV -/
import Derived.Test.YtohlefnljgkdcabDoorST37
import Derived.Test.YtohlefnljgkdcabDoorST17
import Derived.Deep.RegionHeld3
import Derived.Deep.DeepCutAuto
import Derived.Test.YtohlefnljgkdcabDoorST08
import Derived.Test.YtohlefnljgkdcabDoorST16
namespace Go.Proofs.YtohlefnljgkdcabDoor
open Go.RowKit
set_option maxHeartbeats 4000000 in
set_option maxRecDepth 100000 in
theorem sameStates_same (s : St) (v1 v2 : Value) (w : World) (h1 : StAt w v1 s) (h2 : StAt w v2 s) :
    Calls Tryd.prog 30 #[v1, v2] w fun e w' => e = .returned (.bool true) ∧ Kept w w' := by
  obtain ⟨vf1, vo1, rfl, hf1, ho1⟩ := h1
  obtain ⟨vf2, vo2, rfl, hf2, ho2⟩ := h2
  obtain ⟨oa1, cap1, rfl, hl, i1⟩ := hf1
  obtain ⟨oa2, cap2, rfl, _, i2⟩ := hf2
  have HSI : Hid (∀ u, Kept w u → Calls Tryd.prog 25 #[vo1, vo2] u fun e w' => e = .returned (.bool true) ∧ Kept u w') := hide (fun u hu => by
    have := sameInts_w s.out s.out vo1 vo2 u (ho1.kept hu) (ho2.kept hu)
    rwa [decide_eq_true rfl] at this)
  obtain ⟨oo1, co1, rfl, _, _⟩ := ho1
  obtain ⟨oo2, co2, rfl, _, _⟩ := ho2
  have hn1 : (s.now != s.now) = false := by simp
  have hn2 : ((s.fibers.length : Int) != (s.fibers.length : Int)) = false := by simp
  generalize hN : s.fibers.length = N at *
  generalize s.out.length = M at *
  have HI1 := hide i1
  have HI2 := hide i2
  have HN := hide hN
  clear i1 i2 hN
  go_enter Tryd.func30, Tryd.ntmps30
  go_wp2_with fail
  refine ((unhide HSI) _ (((Kept.refl w).alloc _).alloc _)).mono ?_
  rintro e w1 ⟨rfl, hk1⟩
  have hkw := (((Kept.refl w).alloc (.cells #[.slice oa1 N cap1, .int .i64 s.now, .slice oo1 M co1] 54)).alloc (.cells #[.slice oa2 N cap2, .int .i64 s.now, .slice oo2 M co2] 54)).trans hk1
  have L0 := lays_kept hk1 (lays_alloc (lays_new (w := w) (o := .cells #[.slice oa1 N cap1, .int .i64 s.now, .slice oo1 M co1] 54) rfl) (.cells #[.slice oa2 N cap2, .int .i64 s.now, .slice oo2 M co2] 54))
  have L1 : w1.heap[w.heap.size + 1]? = some (.cells #[.slice oa2 N cap2, .int .i64 s.now, .slice oo2 M co2] 54) := lays_kept hk1 (lays_new (by simp))
  have X0 : Hid (w1.cell? ⟨w.heap.size, 0, none⟩ = some (.slice oa1 N cap1)) := hide (cell_at L0 rfl)
  have Y0 : Hid (w1.cell? ⟨w.heap.size + 1, 0, none⟩ = some (.slice oa2 N cap2)) := hide (cell_at L1 rfl)
  have HKW := hide hkw
  clear hk1 hkw L0 L1 HSI
  go_wp2
  go_loopw [5] (fun s5 wr => ∃ k : Nat, k ≤ N ∧ s5 = .int .i64 k ∧ Hid (Kept w1 wr)) (fun s5 _ => N - (intOf s5).toNat)
  case atStart => exact ⟨0, Nat.zero_le _, rfl, Kept.refl _⟩
  case round =>
    obtain ⟨k, hkm, rfl, HKr⟩ := hrel
    have dx := (unhide HKr).cell (unhide X0)
    have dy := (unhide HKr).cell (unhide Y0)
    by_cases hlt : k < N
    · obtain ⟨f, hx⟩ : ∃ f, s.fibers[k]? = some f := ⟨_, List.getElem?_eq_getElem (by rw [unhide HN]; exact hlt)⟩
      obtain ⟨p1, o1, vf1, rfl, x0, x1, hc1⟩ := (unhide HI1) k _ hx
      obtain ⟨p2, o2, vf2, rfl, y0, y1, hc2⟩ := (unhide HI2) k _ hx
      have hk := (unhide HKW).trans (unhide HKr)
      obtain ⟨oc1, cc1, rfl, hlf, j1⟩ := hc1
      obtain ⟨oc2, cc2, rfl, _, j2⟩ := hc2
      have HJ1 := hide j1
      have HJ2 := hide j2
      have hk1 : (k : Int) < (N : Int) := by omega
      have hk0 : (0 : Int) ≤ (k : Int) := by omega
      have HY : Hid (∀ u, Kept wr u → u.cell? ⟨w.heap.size, 0, none⟩ = some (.slice (some ⟨p1, o1, none⟩) N cap1) ∧ u.cell? ⟨w.heap.size + 1, 0, none⟩ = some (.slice (some ⟨p2, o2, none⟩) N cap2) ∧ u.cell? ⟨p1, o1 + k * 2, none⟩ = some (.slice oc1 f.frames.length cc1) ∧ u.cell? ⟨p1, o1 + k * 2 + 1, none⟩ = some (.int .i64 f.caller) ∧ u.cell? ⟨p2, o2 + k * 2, none⟩ = some (.slice oc2 f.frames.length cc2) ∧ u.cell? ⟨p2, o2 + k * 2 + 1, none⟩ = some (.int .i64 f.caller)) :=
        hide (fun u hu => ⟨hu.cell dx, hu.cell dy, hu.cell (hk.cell x0), hu.cell (hk.cell x1), hu.cell (hk.cell y0), hu.cell (hk.cell y1)⟩)
      have HKW2 := hide hk
      clear j1 j2 x0 x1 y0 y1 hk
      go_wp2_with fail
      go_cut [6, 7] from 33 to 108 (fun s6 s7 wx => ∃ b6 b7, s6 = .pointer (some ⟨b6, 0, none⟩) ∧ s7 = .pointer (some ⟨b7, 0, none⟩) ∧ Hid (wx.cell? ⟨b6, 0, none⟩ = some (.slice oc1 f.frames.length cc1) ∧ wx.cell? ⟨b6, 1, none⟩ = some (.int .i64 f.caller) ∧ wx.cell? ⟨b7, 0, none⟩ = some (.slice oc2 f.frames.length cc2) ∧ wx.cell? ⟨b7, 1, none⟩ = some (.int .i64 f.caller) ∧ Kept wr wx))
      case first =>
        go_region_held3 (fun u => u.cell? ⟨w.heap.size, 0, none⟩ = some (.slice (some ⟨p1, o1, none⟩) N cap1) ∧ u.cell? ⟨w.heap.size + 1, 0, none⟩ = some (.slice (some ⟨p2, o2, none⟩) N cap2) ∧ u.cell? ⟨p1, o1 + k * 2, none⟩ = some (.slice oc1 f.frames.length cc1) ∧ u.cell? ⟨p1, o1 + k * 2 + 1, none⟩ = some (.int .i64 f.caller) ∧ u.cell? ⟨p2, o2 + k * 2, none⟩ = some (.slice oc2 f.frames.length cc2) ∧ u.cell? ⟨p2, o2 + k * 2 + 1, none⟩ = some (.int .i64 f.caller))
          (exact (unhide HY) _ (by repeat (first | exact Kept.refl _ | refine Kept.drew ?_ | refine Kept.alloc ?_ _ | refine Kept.setCell ?_ (by simp) _))) (fail)
        all_goals go_wp2_with fail
        all_goals go_meet
        all_goals exact ⟨_, _, rfl, rfl, hide ⟨by simp, by simp, by simp, by simp, (((Kept.refl wr).alloc _).alloc _).drew⟩⟩
      case rest =>
        obtain ⟨b6, b7, rfl, rfl, HC⟩ := hcut
        obtain ⟨z0, z1, z2, z3, hkc⟩ := unhide HC
        have hn3 : (f.caller != f.caller) = false := by simp
        have HZ0 := hide z0
        have HZ2 := hide z2
        have HKC := hide hkc
        have HKr0 := HKr
        have HFW := hide ((unhide HKW2).trans hkc)
        generalize hq : f.frames.length = q at *
        have HQ := hide hq
        have hn4 : ((q : Int) != (q : Int)) = false := by simp
        clear HC hkc hq dx dy HY
        go_wp2
        clear z0 z1 z2 z3
        go_loopw [8] (fun s8 wr => ∃ i : Nat, i ≤ q ∧ s8 = .int .i64 i ∧ Hid (Kept wc wr)) (fun s8 _ => q - (intOf s8).toNat)
        case atStart => exact ⟨0, Nat.zero_le _, rfl, Kept.refl _⟩
        case round =>
          obtain ⟨i, hiq, rfl, HKi⟩ := hrel
          have dz := (unhide HKi).cell (unhide HZ0)
          have dw := (unhide HKi).cell (unhide HZ2)
          by_cases hil : i < q
          · obtain ⟨x, hx2⟩ : ∃ x, f.frames[i]? = some x := ⟨_, List.getElem?_eq_getElem (by rw [unhide HQ]; exact hil)⟩
            obtain ⟨g1, t1, vl1, vs1, rfl, a0, a1, a2, a3, hvl1, hvs1⟩ := (unhide HJ1) i _ hx2
            obtain ⟨g2, t2, vl2, vs2, rfl, e0, e1, e2, e3, hvl2, hvs2⟩ := (unhide HJ2) i _ hx2
            have hk := (unhide HFW).trans (unhide HKi)
            have HSL : Hid (∀ u, Kept wr u → Calls Tryd.prog 25 #[vl1, vl2] u fun e w' => e = .returned (.bool true) ∧ Kept u w') := hide (fun u hu => by
              have := sameInts_w x.locals x.locals vl1 vl2 u (hvl1.kept (hk.trans hu)) (hvl2.kept (hk.trans hu))
              rwa [decide_eq_true rfl] at this)
            have HSS : Hid (∀ u, Kept wr u → Calls Tryd.prog 25 #[vs1, vs2] u fun e w' => e = .returned (.bool true) ∧ Kept u w') := hide (fun u hu => by
              have := sameInts_w x.stack x.stack vs1 vs2 u (hvs1.kept (hk.trans hu)) (hvs2.kept (hk.trans hu))
              rwa [decide_eq_true rfl] at this)
            obtain ⟨ol1, cl1, rfl, _, _⟩ := hvl1
            obtain ⟨os1, cs1, rfl, _, _⟩ := hvs1
            obtain ⟨ol2, cl2, rfl, _, _⟩ := hvl2
            obtain ⟨os2, cs2, rfl, _, _⟩ := hvs2
            have HYi : Hid (∀ u, Kept wr u → u.cell? ⟨b6, 0, none⟩ = some (.slice (some ⟨g1, t1, none⟩) q cc1) ∧ u.cell? ⟨b7, 0, none⟩ = some (.slice (some ⟨g2, t2, none⟩) q cc2) ∧ u.cell? ⟨g1, t1 + i * 4, none⟩ = some (.int .i64 x.fn) ∧ u.cell? ⟨g1, t1 + i * 4 + 1, none⟩ = some (.int .i64 x.at_) ∧ u.cell? ⟨g1, t1 + i * 4 + 2, none⟩ = some (.slice ol1 x.locals.length cl1) ∧ u.cell? ⟨g1, t1 + i * 4 + 3, none⟩ = some (.slice os1 x.stack.length cs1) ∧ u.cell? ⟨g2, t2 + i * 4, none⟩ = some (.int .i64 x.fn) ∧ u.cell? ⟨g2, t2 + i * 4 + 1, none⟩ = some (.int .i64 x.at_) ∧ u.cell? ⟨g2, t2 + i * 4 + 2, none⟩ = some (.slice ol2 x.locals.length cl2) ∧ u.cell? ⟨g2, t2 + i * 4 + 3, none⟩ = some (.slice os2 x.stack.length cs2)) :=
              hide (fun u hu => ⟨hu.cell dz, hu.cell dw, hu.cell (hk.cell a0), hu.cell (hk.cell a1), hu.cell (hk.cell a2), hu.cell (hk.cell a3), hu.cell (hk.cell e0), hu.cell (hk.cell e1), hu.cell (hk.cell e2), hu.cell (hk.cell e3)⟩)
            have hi1 : (i : Int) < (q : Int) := by omega
            have hi0 : (0 : Int) ≤ (i : Int) := by omega
            have hn5 : (x.fn != x.fn) = false := by simp
            have hn6 : (x.at_ != x.at_) = false := by simp
            clear a0 a1 a2 a3 e0 e1 e2 e3 hk hx2
            go_wp2_with fail
            go_cut [9, 10] from 64 to 108 (fun s9 s10 wx => ∃ b9 b10, s9 = .pointer (some ⟨b9, 0, none⟩) ∧ s10 = .pointer (some ⟨b10, 0, none⟩) ∧ Hid (wx.heap[b9]? = some (.cells #[.int .i64 x.fn, .int .i64 x.at_, .slice ol1 x.locals.length cl1, .slice os1 x.stack.length cs1] 76) ∧ wx.heap[b10]? = some (.cells #[.int .i64 x.fn, .int .i64 x.at_, .slice ol2 x.locals.length cl2, .slice os2 x.stack.length cs2] 76) ∧ Kept wr wx))
            case first =>
              go_region_held3 (fun u => u.cell? ⟨b6, 0, none⟩ = some (.slice (some ⟨g1, t1, none⟩) q cc1) ∧ u.cell? ⟨b7, 0, none⟩ = some (.slice (some ⟨g2, t2, none⟩) q cc2) ∧ u.cell? ⟨g1, t1 + i * 4, none⟩ = some (.int .i64 x.fn) ∧ u.cell? ⟨g1, t1 + i * 4 + 1, none⟩ = some (.int .i64 x.at_) ∧ u.cell? ⟨g1, t1 + i * 4 + 2, none⟩ = some (.slice ol1 x.locals.length cl1) ∧ u.cell? ⟨g1, t1 + i * 4 + 3, none⟩ = some (.slice os1 x.stack.length cs1) ∧ u.cell? ⟨g2, t2 + i * 4, none⟩ = some (.int .i64 x.fn) ∧ u.cell? ⟨g2, t2 + i * 4 + 1, none⟩ = some (.int .i64 x.at_) ∧ u.cell? ⟨g2, t2 + i * 4 + 2, none⟩ = some (.slice ol2 x.locals.length cl2) ∧ u.cell? ⟨g2, t2 + i * 4 + 3, none⟩ = some (.slice os2 x.stack.length cs2))
                (exact (unhide HYi) _ (by repeat (first | exact Kept.refl _ | refine Kept.drew ?_ | refine Kept.alloc ?_ _ | refine Kept.setCell ?_ (by simp) _))) (fail)
              all_goals go_wp2_with fail
              all_goals go_meet
              all_goals first
                | exact ⟨_, _, rfl, rfl, hide ⟨lays_alloc (lays_new rfl) _, lays_new (by simp), (((Kept.refl wr).alloc _).alloc _).drew⟩⟩
                | exact ⟨_, _, rfl, rfl, hide ⟨lays_new (by simp), lays_alloc (lays_new rfl) _, (((Kept.refl wr).alloc _).alloc _).drew⟩⟩
            case rest =>
              obtain ⟨b9, b10, rfl, rfl, HD⟩ := hcut
              obtain ⟨l9, l10, hkd⟩ := unhide HD
              have y0 := cell_at l9 (i := 0) rfl
              have y1 := cell_at l9 (i := 1) rfl
              have y2 := cell_at l9 (i := 2) rfl
              have y4 := cell_at l10 (i := 0) rfl
              have y5 := cell_at l10 (i := 1) rfl
              have y6 := cell_at l10 (i := 2) rfl
              have HL9 := hide l9
              have HL10 := hide l10
              have HKD := hide hkd
              clear HD l9 l10 hkd dz dw HYi
              go_wp2_with fail
              refine ((unhide HSL) _ (unhide HKD)).mono ?_
              rintro e w4 ⟨rfl, hk4⟩
              have y3 := cell_at (lays_kept hk4 (unhide HL9)) (i := 3) rfl
              have y7 := cell_at (lays_kept hk4 (unhide HL10)) (i := 3) rfl
              have HK4 := hide ((unhide HKD).trans hk4)
              clear hk4
              go_wp2_with fail
              refine ((unhide HSS) _ (unhide HK4)).mono ?_
              rintro e w5 ⟨rfl, hk5⟩
              have HK5 := hide ((unhide HK4).trans hk5)
              clear hk5
              go_wp2
              go_roundw
              case rel => exact ⟨i + 1, by omega, by go_num, (unhide HKi).trans (unhide HK5)⟩
              case measure => simp [intOf]; omega
          · have hi1 : ¬ ((i : Int) < (q : Int)) := by omega
            go_wp2
            go_roundw
            case rel => exact ⟨k + 1, by omega, by go_num, (unhide HKr0).trans ((unhide HKC).trans (unhide HKi))⟩
            case measure => simp [intOf]; omega
    · go_wp2
      go_ret
      exact ⟨rfl, (unhide HKW).trans (unhide HKr)⟩
end Go.Proofs.YtohlefnljgkdcabDoor
namespace Go.Proofs.YtohlefnljgkdcabDoor
open Go.RowKit
def StVar (w : World) (B : Nat) (s : St) : Prop := ∃ oF cF oO cO, w.heap[B]? = some (.cells #[.slice oF s.fibers.length cF, .int .i64 s.now, .slice oO s.out.length cO] 54) ∧ StAt w (.agg #[.slice oF s.fibers.length cF, .int .i64 s.now, .slice oO s.out.length cO]) s
theorem StVar.kept {w w' : World} {B : Nat} {s : St} (h : StVar w B s) (k : Kept w w') : StVar w' B s := by
  obtain ⟨oF, cF, oO, cO, h1, h2⟩ := h
  exact ⟨oF, cF, oO, cO, lays_kept k h1, h2.kept k⟩
theorem OwnVar.read {base bs : Nat} {w : World} {V : Key → Value} {s : St} (h : OwnVar base w bs V s) (hs : Small s) : StVar w bs s := by
  obtain ⟨xsF, hrF, _⟩ := h.own.piece .fibers trivial
  obtain ⟨oX, cX, hVf, _⟩ := row_slice hrF
  have hrO : _ := h.own.piece .out trivial
  obtain ⟨oY, cY, hVo, _⟩ := row_slice hrO
  have hv := h.var
  have hr := h.own.reads hs
  rw [hVf, hVo] at hv hr
  exact ⟨oX, cX, oY, cY, hv, hr⟩
def cs (n : Nat) : St := (runS cntL n (beginS cntL)).1
theorem afterCnt {N0 : Nat} (vp : Value) (n : Nat) (w : World) (hp : CountAt N0 w vp) (hf : n ≤ 500) (hok : runOk cntL n (beginS cntL)) : Calls Tryd.prog 46 #[vp, .int .i64 n] w (OwnPost (cs n) w) :=
  after_on cntL vp n w hp.prog cnt_right cnt_small hf cnt_begin hok
theorem own_stored {N : Nat} {w : World} {V : Key → Value} {s : St} (h : Own N w V s) (hN : N ≤ w.heap.size) {oF oO : Option Addr} {cF cO : Nat} (h1 : V .fibers = .slice oF s.fibers.length cF) (h2 : V .out = .slice oO s.out.length cO) :
    OwnVar N (w.alloc (.cells #[.slice oF s.fibers.length cF, .int .i64 s.now, .slice oO s.out.length cO] 54)) w.heap.size V s := by
  refine ⟨?_, h.alloc _, h.new_off (.inl (Nat.le_refl _)), hN⟩
  rw [h1, h2]
  exact lays_new rfl
end Go.Proofs.YtohlefnljgkdcabDoor
namespace Go.Proofs.YtohlefnljgkdcabDoor
open Go.RowKit
theorem cs_small6 : Small (cs 6) := by unfold Small; decide +kernel
def csY : St := { cs 6 with now := 0 }
def csZ : St := setFr (cs 7) 1 0 { frAt (cs 7) 1 0 with stack := [1] }
def csU : St := setFr (cs 1) 1 0 { frAt (cs 1) 1 0 with locals := (frAt (cs 1) 1 0).locals.set 0 1 }
def csV : St := setFr (cs 7) 1 0 { frAt (cs 7) 1 0 with locals := (frAt (cs 7) 1 0).locals.set 0 1 }
theorem small_y : Small csY := by unfold Small; decide +kernel
theorem small_z : Small csZ := by unfold Small; decide +kernel
theorem small_u : Small csU := by unfold Small; decide +kernel
theorem small_v : Small csV := by unfold Small; decide +kernel
theorem err_x : stErrS cntL (cs 6) = 0 := by decide +kernel
theorem err_y : stErrS cntL csY = 1 := by decide +kernel
theorem err_z : stErrS cntL csZ = 1 := by decide +kernel
theorem err_u : stErrS cntL csU = 1 := by decide +kernel
theorem err_v : stErrS cntL csV = 0 := by decide +kernel
theorem err_0 : stErrS cntL St.zero = 5 := by decide +kernel
theorem len_7 : (cs 7).fibers.length = 2 ∧ (fibAt (cs 7) 1).frames.length = 1 ∧ (frAt (cs 7) 1 0).locals.length = 1 := by decide +kernel
theorem len_1 : (cs 1).fibers.length = 2 ∧ (fibAt (cs 1) 1).frames.length = 1 ∧ (frAt (cs 1) 1 0).locals.length = 1 := by decide +kernel
theorem write_local {N bs : Nat} {w : World} {V : Key → Value} {s : St} (h : OwnVar N w bs V s) (hl : s.fibers.length = 2 ∧ (fibAt s 1).frames.length = 1 ∧ (frAt s 1 0).locals.length = 1) :
    ∃ gF cF g c gl cl x, w.cell? ⟨bs, 0, none⟩ = some (.slice (some ⟨gF, 0, none⟩) 2 cF) ∧ w.cell? ⟨gF, 2, none⟩ = some (.slice (some ⟨g, 0, none⟩) 1 c) ∧ w.cell? ⟨g, 2, none⟩ = some (.slice (some ⟨gl, 0, none⟩) 1 cl) ∧ w.cell? ⟨gl, 0, none⟩ = some x ∧ w.frozen? ⟨gl, 0, none⟩ = false ∧
      OwnVar N (w.setCell ⟨gl, 0, none⟩ (.int .i64 1)) bs V (setFr s 1 0 { frAt s 1 0 with locals := (frAt s 1 0).locals.set 0 1 }) ∧ N ≤ gl := by
  obtain ⟨h1, h2, h3⟩ := hl
  obtain ⟨gF, cF, eF, _, k0, _, _, _⟩ := h.own.fib (i := 1) (by omega)
  obtain ⟨g, c, eg, _, _, _, k2, _, _, _⟩ := h.own.fr (i := 1) (j := 0) (by omega) (by omega)
  have hrow := h.own.loc (i := 1) (j := 0) (by omega) (by omega)
  obtain ⟨gl, cl, el, _, hcell, hfz, hb⟩ := row_some hrow (by omega)
  obtain ⟨d0, _, _, _⟩ := h.cells
  have hv := hcell 0 _ (ints_at (getD_of_lt (frAt s 1 0).locals 0 0 (by omega)))
  obtain ⟨ho, _⟩ := h.setLocal (i := 1) (j := 0) (q := 0) (by omega) (by omega) el 1
  rw [eF, h1] at d0
  rw [eg, h2] at k0
  rw [el, h3] at k2
  exact ⟨gF, cF, g, c, gl, cl, _, d0, k0, k2, hv, hfz 0, ho, hb⟩
theorem write_stack {N bs : Nat} {w : World} {V : Key → Value} {s : St} (h : OwnVar N w bs V s) (hN : N ≤ w.heap.size) (hl : s.fibers.length = 2 ∧ (fibAt s 1).frames.length = 1 ∧ (frAt s 1 0).locals.length = 1) :
    ∃ gF cF g c x, w.cell? ⟨bs, 0, none⟩ = some (.slice (some ⟨gF, 0, none⟩) 2 cF) ∧ w.cell? ⟨gF, 2, none⟩ = some (.slice (some ⟨g, 0, none⟩) 1 c) ∧ (w.alloc (.cells #[.int .i64 1] 3)).cell? ⟨g, 3, none⟩ = some x ∧ (w.alloc (.cells #[.int .i64 1] 3)).frozen? ⟨g, 3, none⟩ = false ∧
      (∃ V', OwnVar N ((w.alloc (.cells #[.int .i64 1] 3)).setCell ⟨g, 3, none⟩ (.slice (some ⟨w.heap.size, 0, none⟩) 1 1)) bs V' (setFr s 1 0 { frAt s 1 0 with stack := [1] })) ∧ N ≤ g := by
  obtain ⟨h1, h2, h3⟩ := hl
  obtain ⟨gF, cF, eF, _, k0, _, _, _⟩ := h.own.fib (i := 1) (by omega)
  obtain ⟨g, c, eg, _, _, _, _, k3, hfz, hb⟩ := h.own.fr (i := 1) (j := 0) (by omega) (by omega)
  obtain ⟨d0, _, _, _⟩ := h.cells
  have hgl := cell_lt k3
  simp only at hgl
  obtain ⟨ho, _⟩ := h.turnStack (w2 := w.alloc (.cells #[.int .i64 1] 3)) (i := 1) (j := 0) (by omega) (by omega) eg (.slice (some ⟨w.heap.size, 0, none⟩) 1 1) [1] (World.grownBy_alloc w _ _) ⟨rfl, .inr ⟨w.heap.size, 1, #[.int .i64 1], rfl, hN, lays_new rfl, Nat.le_refl _, by decide, rfl, rfl⟩⟩ (.inr rfl)
  rw [eF, h1] at d0
  rw [eg, h2] at k0
  exact ⟨gF, cF, g, c, _, d0, k0, ((Kept.refl w).alloc _).cell k3, (World.frozen?_of_block (Below.heap_alloc w _ g hgl)).trans (hfz 3), ⟨_, ho⟩, hb⟩
end Go.Proofs.YtohlefnljgkdcabDoor
namespace Go.Proofs.YtohlefnljgkdcabDoor
open Go.RowKit
def framesLe (l : List Fb) : Bool := l.all fun b => decide (b.frames.length ≤ 6)
def callersB (l : List Fb) (n : Nat) : Bool := l.all fun b => nameB b.caller n
theorem all_take {α : Type} {P : α → Bool} {l : List α} {d : α} (h : ∀ i, i < l.length → P (l.getD i d) = true) : l.all P = true := by
 rw [List.all_eq_true]
 intro x hx
 obtain ⟨i, hi, rfl⟩ := List.getElem_of_mem hx
 simpa [List.getD, hi] using h i hi
theorem all_fails {α : Type} {P : α → Bool} {l : List α} {d : α} {i : Nat} (hi : i < l.length) (h : P (l.getD i d) = false) : l.all P = false := by
 rw [Bool.eq_false_iff]
 intro ha
 have := all_getD (d := d) ha hi
 rw [h] at this
 cases this
set_option maxHeartbeats 4000000 in
set_option maxRecDepth 100000 in
theorem askLimits_any (p : List Fn) (s : St) (v : Value) (w : World) (hj : JudgeV w v p s) (r : Bool) (hr : (decide (s.fibers.length ≤ 5 ∧ s.out.length ≤ 30) && framesLe s.fibers) = r) :
  Calls Tryd.prog 66 #[v] w fun e w' => e = askEnd 2 r ∧ Kept w w' := by
 obtain ⟨vF, vO, vp, vh, rfl, h1, h2, h3, _⟩ := hj
 obtain ⟨of, cf, rfl, hfl, hcell⟩ := h1
 obtain ⟨oo, co, rfl, hol, _⟩ := h2
 have HR := hide hr
 have HC := hide hcell
 clear hr hcell h3
 generalize hN : s.fibers.length = n at *
 generalize hM : s.out.length = m at *
 have HN := hide hN
 clear hN hM
 by_cases c1 : n ≤ 5
 ·by_cases c2 : m ≤ 30
  ·have d1 : decide ((n : Int) ≤ 5) = true := decide_eq_true (by omega)
   have d2 : decide ((m : Int) ≤ 30) = true := decide_eq_true (by omega)
   have hr := unhide HR
   rw [decide_eq_true ⟨c1, c2⟩, Bool.true_and] at hr
   have HR2 := hide hr
   clear hr HR
   go_enter Tryd.func66, Tryd.ntmps66
   go_wp2_with (go_at_call 86; refine (ask2_ok _ _ _ _ (by simp) (by simp)).mono ?_; rintro e w' ⟨rfl, rfl⟩)
   generalize hw0 : (w.alloc (.cells #[.slice of n cf, .int .i64 s.now, .slice oo m co, vp, vh] 102)).alloc (.cells #[.bool true, .bool true] 4) = w0 at *
   have hk0 : Kept w w0 := by rw [← hw0]; exact ((Kept.refl w).alloc _).alloc _
   have HK0 := hide hk0
   clear hw0 hk0 d1 d2
   go_loopw [20] (fun s20 wr => ∃ k : Nat, k ≤ n ∧ s20 = .int .i64 k ∧ Hid (∀ i, i < k → (s.fibers.getD i Fb.zero).frames.length ≤ 6) ∧ Hid (Kept w0 wr)) (fun s20 _ => n - (intOf s20).toNat)
   case atStart => exact ⟨0, Nat.zero_le _, rfl, (fun i hi => by omega), Kept.refl _⟩
   case round =>
    obtain ⟨k, hkm, rfl, HA, HKr⟩ := hrel
    by_cases hlt : k < n
    ·obtain ⟨bf, off, vf, e1, k0, k1, hfr⟩ := (unhide HC) k _ (getD_of_lt s.fibers k Fb.zero (by rw [unhide HN]; exact hlt))
     obtain ⟨ofr, cfr, rfl, hfl2, _⟩ := hfr
     subst e1
     have hk := (unhide HK0).trans (unhide HKr)
     have l0 := hk.cell k0
     have l1 := hk.cell k1
     have HKW := hide hk
     generalize hq : (s.fibers.getD k Fb.zero).frames.length = q at *
     generalize (s.fibers.getD k Fb.zero).caller = c at *
     have HQ := hide hq
     clear hk k0 k1 hq
     by_cases hq6 : q ≤ 6
     ·have d1 : decide ((q : Int) ≤ 6) = true := decide_eq_true (by omega)
      go_wp2_with (go_at_call 86; refine (ask1_ok _ _ _ _ (by simp)).mono ?_; rintro e w' ⟨rfl, rfl⟩)
      go_roundw
      case rel =>
       refine ⟨k + 1, by omega, by go_num, ?_, hide (((unhide HKr).alloc _).alloc _)⟩
       intro i hi
       by_cases e : i = k
       ·subst e; rw [unhide HQ]; exact hq6
       ·exact (unhide HA) i (by omega)
      case measure => simp [intOf]; omega
     ·have d1 : decide ((q : Int) ≤ 6) = false := decide_eq_false (by omega)
      have hrf : r = false := by
       rw [← unhide HR2]
       exact all_fails (d := Fb.zero) (i := k) (by rw [unhide HN]; exact hlt) (by rw [unhide HQ]; exact decide_eq_false hq6)
      subst hrf
      clear hq6
      go_wp2_with (go_at_call 86; refine (ask1_no _ _ _ _ (by simp)).mono ?_; rintro e w' ⟨rfl, rfl⟩; dsimp only [left])
      exact ⟨rfl, rfl, ((unhide HKW).alloc _).alloc _⟩
    ·have hrt : r = true := by
      rw [← unhide HR2]
      exact all_take (d := Fb.zero) (fun i hi => decide_eq_true ((unhide HA) i (by have := unhide HN; omega)))
     subst hrt
     go_wp2
     go_end0
     exact ⟨rfl, (unhide HK0).trans (unhide HKr)⟩
  ·have d1 : decide ((n : Int) ≤ 5) = true := decide_eq_true (by omega)
   have d2 : decide ((m : Int) ≤ 30) = false := decide_eq_false (by omega)
   have hr := unhide HR
   rw [decide_eq_false (fun h => c2 h.2), Bool.false_and] at hr
   subst hr
   go_enter Tryd.func66, Tryd.ntmps66
   go_wp2_with (go_at_call 86; refine (ask2_no' _ _ _ true _ (by simp) (by simp)).mono ?_; rintro e w' ⟨rfl, rfl⟩; dsimp only [left])
   exact ⟨rfl, rfl, ((Kept.refl w).alloc _).alloc _⟩
 ·have d1 : decide ((n : Int) ≤ 5) = false := decide_eq_false (by omega)
  have hr := unhide HR
  rw [decide_eq_false (fun h => c1 h.1), Bool.false_and] at hr
  subst hr
  by_cases c2 : m ≤ 30
  ·have d2 : decide ((m : Int) ≤ 30) = true := decide_eq_true (by omega)
   go_enter Tryd.func66, Tryd.ntmps66
   go_wp2_with (go_at_call 86; refine (ask2_no _ _ _ true _ (by simp) (by simp)).mono ?_; rintro e w' ⟨rfl, rfl⟩; dsimp only [left])
   exact ⟨rfl, rfl, ((Kept.refl w).alloc _).alloc _⟩
  ·have d2 : decide ((m : Int) ≤ 30) = false := decide_eq_false (by omega)
   go_enter Tryd.func66, Tryd.ntmps66
   go_wp2_with (go_at_call 86; refine (ask2_no _ _ _ false _ (by simp) (by simp)).mono ?_; rintro e w' ⟨rfl, rfl⟩; dsimp only [left])
   exact ⟨rfl, rfl, ((Kept.refl w).alloc _).alloc _⟩
def numEnd (s : St) : Ending := if 0 < s.fibers.length then askEnd 3 (nameB s.now s.fibers.length && callersB s.fibers s.fibers.length) else left 5
set_option maxHeartbeats 4000000 in
set_option maxRecDepth 100000 in
theorem askNumbers_any (p : List Fn) (s : St) (v : Value) (w : World) (hj : JudgeV w v p s) (hl6 : s.fibers.length ≤ 1000) :
  Calls Tryd.prog 67 #[v] w fun e w' => e = numEnd s ∧ Kept w w' := by
 have hmn : ∀ (n : Int) (u : World), Kept w u → Calls Tryd.prog 87 #[v, .int .i64 n] u fun e w' => e = .returned (.bool (nameB n s.fibers.length)) ∧ Kept u w' := fun n u hu => mayName_any p s v n u (hj.kept hu)
 obtain ⟨vF, vO, vp, vh, rfl, h1, h2, h3, _⟩ := hj
 obtain ⟨of, cf, rfl, hfl, hcell⟩ := h1
 have HMN := hide hmn
 have HC := hide hcell
 clear hmn hcell h3 h2
 generalize hN : s.fibers.length = n at *
 have HN := hide hN
 generalize hr : numEnd s = R
 have HR := hide hr
 unfold numEnd at hr
 rw [hN] at hr
 clear hN HR
 by_cases c1 : 0 < n
 ·have d1 : decide ((0 : Int) < (n : Int)) = true := decide_eq_true (by omega)
  rw [if_pos c1] at hr
  by_cases c2 : nameB s.now n = true
  ·rw [c2, Bool.true_and] at hr
   have HR := hide hr
   have hm1 := (unhide HMN) s.now
   rw [c2] at hm1
   have HM1 := hide hm1
   clear hr hm1
   go_enter Tryd.func67, Tryd.ntmps67
   go_wp2_with (first | (go_at_call 86; refine (ask1_ok _ _ _ _ (by simp)).mono ?_; rintro e w' ⟨rfl, rfl⟩) | (go_at_call 87; refine ((unhide HM1) _ (by repeat (first | exact Kept.refl _ | refine Kept.alloc ?_ _))).mono ?_; rintro e w1 ⟨rfl, hk1⟩; have x0 : w1.cell? ⟨w.heap.size, 0, none⟩ = some (.slice of n cf) := hk1.cell (by simp); have x1 : w1.cell? ⟨w.heap.size, 1, none⟩ = some (.int .i64 s.now) := hk1.cell (by simp); have x2 : w1.cell? ⟨w.heap.size, 2, none⟩ = some vO := hk1.cell (by simp); have x3 : w1.cell? ⟨w.heap.size, 3, none⟩ = some vp := hk1.cell (by simp); have x4 : w1.cell? ⟨w.heap.size, 4, none⟩ = some vh := hk1.cell (by simp); have lw : w.heap.size < w1.heap.size := cell_lt x0; have HK1 : Hid (Kept w w1) := hide (Kept.trans (by repeat (first | exact Kept.refl _ | refine Kept.alloc ?_ _)) hk1); clear hk1))
   generalize hw0 : w1.alloc (.cells #[.bool true] 4) = w0 at *
   have hk0 : Kept w1 w0 := by rw [← hw0]; exact (Kept.refl w1).alloc _
   have y0 := hk0.cell x0
   have y1 := hk0.cell x1
   have y2 := hk0.cell x2
   have y3 := hk0.cell x3
   have y4 := hk0.cell x4
   have HY : Hid (∀ u, Kept w0 u → u.cell? ⟨w.heap.size, 0, none⟩ = some (.slice of n cf) ∧ u.cell? ⟨w.heap.size, 1, none⟩ = some (.int .i64 s.now) ∧ u.cell? ⟨w.heap.size, 2, none⟩ = some vO ∧ u.cell? ⟨w.heap.size, 3, none⟩ = some vp ∧ u.cell? ⟨w.heap.size, 4, none⟩ = some vh) :=
    hide (fun u hu => ⟨hu.cell y0, hu.cell y1, hu.cell y2, hu.cell y3, hu.cell y4⟩)
   have HK0 := hide ((unhide HK1).trans hk0)
   clear hw0 hk0 d1 x0 x1 x2 x3 x4 y0 y1 y2 y3 y4 lw HK1
   go_loopw [22] (fun s22 wr => ∃ k : Nat, k ≤ n ∧ s22 = .int .i64 k ∧ Hid (∀ i, i < k → nameB (s.fibers.getD i Fb.zero).caller n = true) ∧ Hid (Kept w0 wr)) (fun s22 _ => n - (intOf s22).toNat)
   case atStart => exact ⟨0, Nat.zero_le _, rfl, (fun i hi => by omega), Kept.refl _⟩
   case round =>
    obtain ⟨k, hkm, rfl, HA, HKr⟩ := hrel
    by_cases hlt : k < n
    ·obtain ⟨bf, off, vf, e1, k0, k1, hfr⟩ := (unhide HC) k _ (getD_of_lt s.fibers k Fb.zero (by rw [unhide HN]; exact hlt))
     obtain ⟨ofr, cfr, rfl, _, _⟩ := hfr
     subst e1
     have hk := (unhide HK0).trans (unhide HKr)
     have l0 := hk.cell k0
     have l1 := hk.cell k1
     obtain ⟨y0, y1, y2, y3, y4⟩ := (unhide HY) _ (unhide HKr)
     have ll := cell_lt y0
     simp only at ll
     have hm2 := (unhide HMN) (s.fibers.getD k Fb.zero).caller
     have HKW := hide hk
     generalize hq : (s.fibers.getD k Fb.zero).caller = c at *
     have HQ := hide hq
     clear k0 k1 hq
     by_cases hq6 : nameB c n = true
     ·rw [hq6] at hm2
      have HM2 := hide hm2
      clear hm2 hk
      go_wp2_with (first | (go_at_call 86; refine (ask1_ok _ _ _ _ (by simp)).mono ?_; rintro e w' ⟨rfl, rfl⟩) | (go_at_call 87; refine ((unhide HM2) _ (Kept.trans (unhide HKW) (by repeat (first | exact Kept.refl _ | refine Kept.alloc ?_ _)))).mono ?_; rintro e w2 ⟨rfl, hk2⟩))
      go_roundw
      case rel =>
       refine ⟨k + 1, by omega, by go_num, ?_, hide ((Kept.trans (Kept.trans (unhide HKr) (by repeat (first | exact Kept.refl _ | refine Kept.alloc ?_ _))) hk2).alloc _)⟩
       intro i hi
       by_cases e : i = k
       ·subst e; rw [unhide HQ]; exact hq6
       ·exact (unhide HA) i (by omega)
      case measure => simp [intOf]; omega
     ·have hqf : nameB c n = false := by simpa using hq6
      rw [hqf] at hm2
      have HM2 := hide hm2
      have hrf : askEnd 3 false = R := by
       rw [← unhide HR]
       have : callersB s.fibers n = false := all_fails (d := Fb.zero) (i := k) (by rw [unhide HN]; exact hlt) (by rw [unhide HQ]; exact hqf)
       rw [this]
      subst hrf
      clear hm2 hk hq6 hqf HR
      go_wp2_with (first | (go_at_call 86; refine (ask1_no _ _ _ _ (by simp)).mono ?_; rintro e w' ⟨rfl, rfl⟩; dsimp only [left]) | (go_at_call 87; refine ((unhide HM2) _ (Kept.trans (unhide HKW) (by repeat (first | exact Kept.refl _ | refine Kept.alloc ?_ _)))).mono ?_; rintro e w2 ⟨rfl, hk2⟩))
      exact ⟨rfl, rfl, (Kept.trans (Kept.trans (unhide HKW) (by repeat (first | exact Kept.refl _ | refine Kept.alloc ?_ _))) hk2).alloc _⟩
    ·have hrt : askEnd 3 true = R := by
      rw [← unhide HR]
      have : callersB s.fibers n = true := all_take (d := Fb.zero) (fun i hi => (unhide HA) i (by have := unhide HN; omega))
      rw [this]
     subst hrt
     go_wp2
     go_end0
     exact ⟨rfl, (unhide HK0).trans (unhide HKr)⟩
  ·have c2f : nameB s.now n = false := by simpa using c2
   rw [c2f, Bool.false_and] at hr
   subst hr
   have hm1 := (unhide HMN) s.now
   rw [c2f] at hm1
   have HM1 := hide hm1
   clear hm1 c2 c2f
   go_enter Tryd.func67, Tryd.ntmps67
   go_wp2_with fail
   refine (ask1_ok _ _ _ _ (by simp)).mono ?_
   rintro e w' ⟨rfl, rfl⟩
   go_wp2_with fail
   refine ((unhide HM1) _ (by repeat (first | exact Kept.refl _ | refine Kept.alloc ?_ _))).mono ?_
   rintro e w1 ⟨rfl, hk1⟩
   go_wp2_with fail
   refine (ask1_no _ _ _ _ (by simp)).mono ?_
   rintro e w' ⟨rfl, rfl⟩
   dsimp only [left]
   exact ⟨rfl, rfl, (Kept.trans (by repeat (first | exact Kept.refl _ | refine Kept.alloc ?_ _)) hk1).alloc _⟩
 ·have d1 : decide ((0 : Int) < (n : Int)) = false := decide_eq_false (by omega)
  rw [if_neg c1] at hr
  subst hr
  go_enter Tryd.func67, Tryd.ntmps67
  go_wp2_with (go_at_call 86; refine (ask1_no _ _ _ _ (by simp)).mono ?_; rintro e w' ⟨rfl, rfl⟩; dsimp only [left])
  exact ⟨rfl, rfl, ((Kept.refl w).alloc _).alloc _⟩
end Go.Proofs.YtohlefnljgkdcabDoor
