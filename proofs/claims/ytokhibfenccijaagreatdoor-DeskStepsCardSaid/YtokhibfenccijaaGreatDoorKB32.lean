/- StateW, Bools, StateX, StateY -/
import Derived.Test.YtokhibfenccijaaGreatDoorKB31
import Derived.Test.YtokhibfenccijaaGreatDoorKB15
import Derived.Test.YtokhibfenccijaaGreatDoorKB13
import Derived.Test.YtokhibfenccijaaGreatDoorChecked
set_option maxRecDepth 100000
set_option maxHeartbeats 8000000
namespace Go.Proofs.YtokhibfenccijaaGreatDoor
open Go.RowKit
theorem askFrames_any (p : List Fn) (s : St) (v : Value) (w : World) (hj : JudgeV w v p s) (hl : HLen p) (r : Bool) (hr : (s.fibers.all fun b => b.frames.all (frameB p)) = r) :
    Calls Tryz.prog 125 #[v] w fun e w' => e = askEnd 1 r ∧ Kept w w' := by
  have hh : ∀ (u : Value) (x : Fr) (y : World), Kept w y → FrV y u x → InFrame p x → Calls Tryz.prog 159 #[v, u] y fun e w' => e = .returned (.int .i64 (hAt p x)) ∧ Kept y w' := fun u x y hy hx hin => height_any p s v u x y (hj.kept hy) hx hl hin
  obtain ⟨vF, vO, vp, vh, rfl, h1, h2, h3, _⟩ := hj
  obtain ⟨of, cf, rfl, hfl, hcell⟩ := h1
  obtain ⟨op, cp, rfl, hpl, hpc⟩ := h3
  have HH := hide hh
  have HC := hide hcell
  have HPC := hide hpc
  have HR := hide hr
  clear hh hcell hpc h2 hr
  generalize hN : s.fibers.length = n at *
  have HN := hide hN
  clear hN
  go_enter Tryz.func125, Tryz.ntmps125
  go_wp2
  generalize hw0 : w.alloc (.cells #[.slice of n cf, .int .i64 s.now, vO, .slice op p.length cp, vh] 162) = w0 at *
  generalize hB : w.heap.size = B0 at *
  have L0 : w0.heap[B0]? = some (.cells #[.slice of n cf, .int .i64 s.now, vO, .slice op p.length cp, vh] 162) := by rw [← hw0]; exact lays_new hB
  have HY : Hid (∀ u, Kept w0 u → u.cell? ⟨B0, 0, none⟩ = some (.slice of n cf) ∧ u.cell? ⟨B0, 1, none⟩ = some (.int .i64 s.now) ∧ u.cell? ⟨B0, 2, none⟩ = some vO ∧ u.cell? ⟨B0, 3, none⟩ = some (.slice op p.length cp) ∧ u.cell? ⟨B0, 4, none⟩ = some vh) :=
    hide (fun u hu => ⟨hu.cell (cell_at L0 rfl), hu.cell (cell_at L0 rfl), hu.cell (cell_at L0 rfl), hu.cell (cell_at L0 rfl), hu.cell (cell_at L0 rfl)⟩)
  have HK0 : Hid (Kept w w0) := by rw [← hw0]; exact hide ((Kept.refl w).alloc _)
  clear hw0 hB L0
  go_loopw [11] (fun s11 wr => ∃ k : Nat, k ≤ n ∧ s11 = .int .i64 k ∧ Hid (∀ i, i < k → (s.fibers.getD i Fb.zero).frames.all (frameB p) = true) ∧ Hid (Kept w0 wr)) (fun s11 _ => n - (intOf s11).toNat)
  case atStart => exact ⟨0, Nat.zero_le _, rfl, (fun i hi => by omega), Kept.refl _⟩
  case round =>
    obtain ⟨k, hkm, rfl, HA, HKr⟩ := hrel
    by_cases hlt : k < n
    · have hki : k < s.fibers.length := by rw [unhide HN]; exact hlt
      obtain ⟨bf, off, vf, e1, k0, k1, hfr⟩ := (unhide HC) k _ (getD_of_lt s.fibers k Fb.zero hki)
      obtain ⟨ofr, cfr, rfl, hfl2, hfc⟩ := hfr
      subst e1
      have hk := (unhide HK0).trans (unhide HKr)
      have l0 := hk.cell k0
      have l1 := hk.cell k1
      have HKI := hide hki
      have HFC := hide hfc
      have HKW := hide hk
      generalize hb : s.fibers.getD k Fb.zero = b at *
      have HB := hide hb
      generalize hq : b.frames.length = q at *
      have HQ := hide hq
      clear hk k0 k1 hb hq hki hfc
      go_wp2
      generalize hw1 : wr.alloc (.cells #[.slice ofr q cfr, .int .i64 b.caller] 95) = w1 at *
      have HK1 : Hid (Kept w0 w1) := by rw [← hw1]; exact hide ((unhide HKr).alloc _)
      clear hw1 l0 l1
      go_loopw [18] (fun s18 wq => ∃ j : Nat, j ≤ q ∧ s18 = .int .i64 j ∧ Hid (∀ i, i < j → frameB p (b.frames.getD i Fr.zero) = true) ∧ Hid (Kept w0 wq)) (fun s18 _ => q - (intOf s18).toNat)
      case atStart => exact ⟨0, Nat.zero_le _, rfl, (fun i hi => by omega), HK1⟩
      case round =>
        obtain ⟨j, hjm, rfl, HJ, HKq⟩ := hrel
        by_cases hjl : j < q
        · have hji : j < b.frames.length := by rw [unhide HQ]; exact hjl
          obtain ⟨bg, og, vl, vs, e2, m0, m1, m2, m3, hvl, hvs⟩ := (unhide HFC) j _ (getD_of_lt b.frames j Fr.zero hji)
          subst e2
          have hkq := (unhide HK0).trans (unhide HKq)
          have HJI := hide hji
          have hfx : Hid (frameB p (b.frames.getD j Fr.zero) = false → r = false) := hide (fun h => by
            rw [← unhide HR]
            have := all_fails (P := frameB p) (d := Fr.zero) (unhide HJI) h
            exact all_fails (d := Fb.zero) (unhide HKI) (by rw [unhide HB]; exact this))
          generalize hx : b.frames.getD j Fr.zero = x at *
          have HX := hide hx
          have hfv : FrV wr (.agg #[.int .i64 x.fn, .int .i64 x.at_, vl, vs]) x := ⟨vl, vs, rfl, hvl.kept hkq, hvs.kept hkq⟩
          have HFV := hide hfv
          obtain ⟨ol, cl, rfl, hnl, -⟩ := hvl
          obtain ⟨os, cs, rfl, hns, -⟩ := hvs
          have q0 := hkq.cell m0
          have q1 := hkq.cell m1
          have q2 := hkq.cell m2
          have q3 := hkq.cell m3
          obtain ⟨y0, y1, y2, y3, y4⟩ := (unhide HY) _ (unhide HKq)
          have ly := cell_lt y0
          simp only at ly
          have HKQ := hide hkq
          generalize hnle : x.locals.length = nl at *
          generalize hnse : x.stack.length = ns at *
          have HNL := hide hnle
          clear hji hx hfv m0 m1 m2 m3 hkq hnle hnse
          by_cases c1 : ixB x.fn p.length = true
          · have hc1 := ixB_iff.1 c1
            obtain ⟨i, hi⟩ : ∃ i : Nat, x.fn = i := ⟨x.fn.toNat, by omega⟩
            have hip : i < p.length := by omega
            obtain ⟨bp, op', cv, e3, f0, f1, f2, hcv⟩ := (unhide HPC) i _ (getD_of_lt p i Fn.zero hip)
            obtain ⟨oc, cc, rfl, hcm, -⟩ := hcv
            subst e3
            have g0 := (unhide HKQ).cell f0
            have g1 := (unhide HKQ).cell f1
            have g2 := (unhide HKQ).cell f2
            have lb := cell_lt g0
            simp only at lb
            have HIF : Hid (∀ u, Calls Tryz.prog 158 #[.int .i64 i, .int .i64 p.length] u fun e w' => e = .returned (.bool true) ∧ u = w') := hide (fun u => by have := sIsIndex_any x.fn p.length u; rwa [c1, hi] at this)
            have hfb := frameB_mk (p := p) (x := x) hi hip
            have HFB := hide hfb
            have HI := hide hi
            have HIP := hide hip
            have hi1 : (i : Int) < (p.length : Int) := by omega
            have hi0 : (0 : Int) ≤ (i : Int) := by omega
            rw [hi] at q0
            generalize har : (p.getD i Fn.zero).args = ar at *
            generalize hlo : (p.getD i Fn.zero).locals = lo at *
            have hme : (p.getD i Fn.zero).code.length = (codeOf p i).length := rfl
            generalize hm : (p.getD i Fn.zero).code.length = m at *
            have HM := hide hme
            have HLO := hide hlo
            clear f0 f1 f2 hfb har hlo hm hme c1 hc1
            clear hip hi
            go_wp2_with (first | (go_at_call 158; refine ((unhide HIF) _).mono ?_; rintro e wI ⟨rfl, rfl⟩) | (go_at_call 156; refine (ask1_ok _ _ _ _ (by simp)).mono ?_; rintro e wC ⟨rfl, rfl⟩))
            generalize hwz : ((wr.alloc (.cells #[.int .i64 i, .int .i64 x.at_, .slice ol nl cl, .slice os ns cs] 92)).alloc (.cells #[.bool true] 4)).alloc (.cells #[.int .i64 ar, .int .i64 lo, .slice oc m cc] 69) = wz at *
            generalize hBX : wr.heap.size = BX at *
            generalize hBF : BX + 1 + 1 = BF at *
            have LX : wz.heap[BX]? = some (.cells #[.int .i64 i, .int .i64 x.at_, .slice ol nl cl, .slice os ns cs] 92) := by rw [← hwz]; exact lays_alloc (lays_alloc (lays_new hBX) _) _
            have LF : wz.heap[BF]? = some (.cells #[.int .i64 ar, .int .i64 lo, .slice oc m cc] 69) := by rw [← hwz]; exact lays_new (by simp [hBX, hBF])
            have HKX : Hid (Kept wr wz) := by rw [← hwz]; exact hide ((((Kept.refl wr).alloc _).alloc _).alloc _)
            have HY9 : Hid (∀ u, Kept wz u → u.cell? ⟨BX, 1, none⟩ = some (.int .i64 x.at_) ∧ u.cell? ⟨BX, 2, none⟩ = some (.slice ol nl cl) ∧ u.cell? ⟨BF, 1, none⟩ = some (.int .i64 lo) ∧ u.cell? ⟨BF, 2, none⟩ = some (.slice oc m cc)) := hide (fun u hu => ⟨hu.cell (cell_at LX rfl), hu.cell (cell_at LX rfl), hu.cell (cell_at LF rfl), hu.cell (cell_at LF rfl)⟩)
            have HYX : Hid (∀ u, Kept wz u → u.cell? ⟨BX, 0, none⟩ = some (.int .i64 i) ∧ u.cell? ⟨BX, 1, none⟩ = some (.int .i64 x.at_) ∧ u.cell? ⟨BX, 2, none⟩ = some (.slice ol nl cl) ∧ u.cell? ⟨BX, 3, none⟩ = some (.slice os ns cs)) := hide (fun u hu => ⟨hu.cell (cell_at LX rfl), hu.cell (cell_at LX rfl), hu.cell (cell_at LX rfl), hu.cell (cell_at LX rfl)⟩)
            have HKZ := hide ((unhide HKQ).trans (unhide HKX))
            clear hwz hBX hBF LX LF q0 q1 q2 q3 g0 g1 g2 y0 y1 y2 y3 y4 ly lb
            by_cases c2 : (nl : Int) = lo
            · have d2 : ((nl : Int) == lo) = true := by rw [beq_iff_eq]; exact c2
              by_cases c3 : ixB x.at_ m = true
              · have HIX : Hid (∀ u, Calls Tryz.prog 158 #[.int .i64 x.at_, .int .i64 m] u fun e w' => e = .returned (.bool true) ∧ u = w') := hide (fun u => by have := sIsIndex_any x.at_ m u; rwa [c3] at this)
                go_region_held2 (fun u => u.cell? ⟨BX, 1, none⟩ = some (.int .i64 x.at_) ∧ u.cell? ⟨BX, 2, none⟩ = some (.slice ol nl cl) ∧ u.cell? ⟨BF, 1, none⟩ = some (.int .i64 lo) ∧ u.cell? ⟨BF, 2, none⟩ = some (.slice oc m cc))
                  (exact (unhide HY9) _ (by repeat (first | exact Kept.refl _ | refine Kept.drew ?_ | refine Kept.alloc ?_ _)))
                  (first | (go_at_call 158; refine ((unhide HIX) _).mono ?_; rintro e wI ⟨rfl, rfl⟩) | (go_at_call 156; refine (ask2_ok _ _ _ _ (by simp) (by simp)).mono ?_; rintro e wC ⟨rfl, rfl⟩))
                have hin : InFrame p x := by
                  have := ixB_iff.1 c3
                  exact ⟨by have := unhide HI; omega, by have := unhide HI; have := unhide HIP; omega, this.1, by rw [unhide HI, Int.toNat_natCast, ← unhide HM]; exact this.2⟩
                have HHX : Hid (∀ u, Kept wz u → Calls Tryz.prog 159 #[.agg #[.slice (some ⟨bf, off, none⟩) n cf, .int .i64 s.now, vO, .slice (some ⟨bp, op', none⟩) p.length cp, vh], .agg #[.int .i64 i, .int .i64 x.at_, .slice ol nl cl, .slice os ns cs]] u fun e w' => e = .returned (.int .i64 (hAt p x)) ∧ Kept u w') := hide (fun u hu => by
                  have := (unhide HH) _ x u ((unhide HKZ).trans hu) ((unhide HFV).kept ((unhide HKX).trans hu)) hin
                  rwa [unhide HI] at this)
                have hfe : frameB p x = decide (0 ≤ hAt p x) := by
                  rw [unhide HFB, unhide HNL, decide_eq_true c2, ← unhide HM, c3, Bool.true_and, Bool.true_and]
                  unfold hAt
                  rw [unhide HI, Int.toNat_natCast]
                have HFE := hide hfe
                clear hin hfe c2 c3 d2 HIX
                generalize hAt p x = z at *
                generalize hwy : (wz.alloc (.cells #[.bool true, .bool true] 4)).drew = wy at *
                have hky : Kept wz wy := by rw [← hwy]; exact ((Kept.refl wz).alloc _).drew
                obtain ⟨y0, y1, y2, y3, y4⟩ := (unhide HY) wy (((unhide HKq).trans (unhide HKX)).trans hky)
                obtain ⟨x0, x1, x2, x3⟩ := (unhide HYX) wy hky
                have HHY := hide ((unhide HHX) wy hky)
                have HKY := hide (((unhide HKq).trans (unhide HKX)).trans hky)
                clear hwy hky HHX HY9 HYX
                by_cases hz : 0 ≤ z
                · have dz : decide (0 ≤ z) = true := decide_eq_true hz
                  have HFT := hide ((unhide HFE).trans dz)
                  go_wp2_with (first | (go_at_call 159; refine (unhide HHY).mono ?_; rintro e w5 ⟨rfl, hk5⟩) | (go_at_call 156; refine (ask1_ok _ _ _ _ (by simp)).mono ?_; rintro e wC ⟨rfl, rfl⟩))
                  go_roundw
                  case rel =>
                    refine ⟨j + 1, by omega, by go_num, ?_, hide ((Kept.trans (unhide HKY) hk5).alloc _)⟩
                    intro i hi
                    by_cases e : i = j
                    · subst e; rw [unhide HX]; exact unhide HFT
                    · exact (unhide HJ) i (by omega)
                  case measure => simp [intOf]; omega
                · have dz : decide (0 ≤ z) = false := decide_eq_false hz
                  have hrf : r = false := (unhide hfx) ((unhide HFE).trans dz)
                  subst hrf
                  clear hz
                  go_wp2_with (first | (go_at_call 159; refine (unhide HHY).mono ?_; rintro e w5 ⟨rfl, hk5⟩) | (go_at_call 156; refine (ask1_no _ _ _ _ (by simp)).mono ?_; rintro e wC ⟨rfl, rfl⟩; dsimp only [left]))
                  exact ⟨rfl, rfl, (Kept.trans (unhide HK0) (Kept.trans (unhide HKY) hk5)).alloc _⟩
              · have c3f : ixB x.at_ m = false := by simpa using c3
                have HIX : Hid (∀ u, Calls Tryz.prog 158 #[.int .i64 x.at_, .int .i64 m] u fun e w' => e = .returned (.bool false) ∧ u = w') := hide (fun u => by have := sIsIndex_any x.at_ m u; rwa [c3f] at this)
                have hrf : r = false := (unhide hfx) (by rw [unhide HFB, ← unhide HM, c3f]; simp)
                subst hrf
                clear c3 c3f
                go_region_held2 (fun u => u.cell? ⟨BX, 1, none⟩ = some (.int .i64 x.at_) ∧ u.cell? ⟨BX, 2, none⟩ = some (.slice ol nl cl) ∧ u.cell? ⟨BF, 1, none⟩ = some (.int .i64 lo) ∧ u.cell? ⟨BF, 2, none⟩ = some (.slice oc m cc))
                  (first | exact hF.elim | exact (unhide HY9) _ (by repeat (first | exact Kept.refl _ | refine Kept.drew ?_ | refine Kept.alloc ?_ _)))
                  (first | (go_at_call 158; refine ((unhide HIX) _).mono ?_; rintro e wI ⟨rfl, rfl⟩) | (go_at_call 156; refine (ask2_no' _ _ _ true _ (by simp) (by simp)).mono ?_; rintro e wC ⟨rfl, rfl⟩; dsimp only [left]; refine (Classical.em False).elim (fun hF => ?_) (fun _ => ⟨rfl, rfl, Kept.trans (unhide HKZ) (by repeat (first | exact Kept.refl _ | refine Kept.drew ?_ | refine Kept.alloc ?_ _))⟩); refine viaK ‹Shut _› hF ⟨#[], []⟩ wz ?_))
                all_goals exact hF.elim
            · have d2 : ((nl : Int) == lo) = false := by rw [beq_eq_false_iff_ne]; exact c2
              have hrf : r = false := (unhide hfx) (by rw [unhide HFB, unhide HNL, decide_eq_false c2]; rfl)
              subst hrf
              clear c2
              by_cases c3 : ixB x.at_ m = true
              · have HIX : Hid (∀ u, Calls Tryz.prog 158 #[.int .i64 x.at_, .int .i64 m] u fun e w' => e = .returned (.bool true) ∧ u = w') := hide (fun u => by have := sIsIndex_any x.at_ m u; rwa [c3] at this)
                go_region_held2 (fun u => u.cell? ⟨BX, 1, none⟩ = some (.int .i64 x.at_) ∧ u.cell? ⟨BX, 2, none⟩ = some (.slice ol nl cl) ∧ u.cell? ⟨BF, 1, none⟩ = some (.int .i64 lo) ∧ u.cell? ⟨BF, 2, none⟩ = some (.slice oc m cc))
                  (first | exact hF.elim | exact (unhide HY9) _ (by repeat (first | exact Kept.refl _ | refine Kept.drew ?_ | refine Kept.alloc ?_ _)))
                  (first | (go_at_call 158; refine ((unhide HIX) _).mono ?_; rintro e wI ⟨rfl, rfl⟩) | (go_at_call 156; refine (ask2_no _ _ _ true _ (by simp) (by simp)).mono ?_; rintro e wC ⟨rfl, rfl⟩; dsimp only [left]; refine (Classical.em False).elim (fun hF => ?_) (fun _ => ⟨rfl, rfl, Kept.trans (unhide HKZ) (by repeat (first | exact Kept.refl _ | refine Kept.drew ?_ | refine Kept.alloc ?_ _))⟩); refine viaK ‹Shut _› hF ⟨#[], []⟩ wz ?_))
                all_goals exact hF.elim
              · have c3f : ixB x.at_ m = false := by simpa using c3
                have HIX : Hid (∀ u, Calls Tryz.prog 158 #[.int .i64 x.at_, .int .i64 m] u fun e w' => e = .returned (.bool false) ∧ u = w') := hide (fun u => by have := sIsIndex_any x.at_ m u; rwa [c3f] at this)
                clear c3 c3f
                go_region_held2 (fun u => u.cell? ⟨BX, 1, none⟩ = some (.int .i64 x.at_) ∧ u.cell? ⟨BX, 2, none⟩ = some (.slice ol nl cl) ∧ u.cell? ⟨BF, 1, none⟩ = some (.int .i64 lo) ∧ u.cell? ⟨BF, 2, none⟩ = some (.slice oc m cc))
                  (first | exact hF.elim | exact (unhide HY9) _ (by repeat (first | exact Kept.refl _ | refine Kept.drew ?_ | refine Kept.alloc ?_ _)))
                  (first | (go_at_call 158; refine ((unhide HIX) _).mono ?_; rintro e wI ⟨rfl, rfl⟩) | (go_at_call 156; refine (ask2_no _ _ _ false _ (by simp) (by simp)).mono ?_; rintro e wC ⟨rfl, rfl⟩; dsimp only [left]; refine (Classical.em False).elim (fun hF => ?_) (fun _ => ⟨rfl, rfl, Kept.trans (unhide HKZ) (by repeat (first | exact Kept.refl _ | refine Kept.drew ?_ | refine Kept.alloc ?_ _))⟩); refine viaK ‹Shut _› hF ⟨#[], []⟩ wz ?_))
                all_goals exact hF.elim
          · have c1f : ixB x.fn p.length = false := by simpa using c1
            have HIF : Hid (∀ u, Calls Tryz.prog 158 #[.int .i64 x.fn, .int .i64 p.length] u fun e w' => e = .returned (.bool false) ∧ u = w') := hide (fun u => by have := sIsIndex_any x.fn p.length u; rwa [c1f] at this)
            have hrf : r = false := (unhide hfx) (by unfold frameB; rw [c1f]; rfl)
            subst hrf
            clear c1 c1f
            go_wp2_with (first | (go_at_call 158; refine ((unhide HIF) _).mono ?_; rintro e wI ⟨rfl, rfl⟩) | (go_at_call 156; refine (ask1_no _ _ _ _ (by simp)).mono ?_; rintro e wC ⟨rfl, rfl⟩; dsimp only [left]))
            exact ⟨rfl, rfl, ((unhide HKQ).alloc _).alloc _⟩
        · have hall : (s.fibers.getD k Fb.zero).frames.all (frameB p) = true := by
            rw [unhide HB]
            exact all_take (d := Fr.zero) (fun i hi => (unhide HJ) i (by have := unhide HQ; omega))
          have HAL := hide hall
          clear hall
          go_wp2
          go_roundw
          case rel =>
            refine ⟨k + 1, by omega, by go_num, ?_, HKq⟩
            intro i hi
            by_cases e : i = k
            · subst e; exact unhide HAL
            · exact (unhide HA) i (by omega)
          case measure => simp [intOf]; omega
    · have hrt : r = true := by
        rw [← unhide HR]
        exact all_take (d := Fb.zero) (fun i hi => (unhide HA) i (by have := unhide HN; omega))
      subst hrt
      go_wp2
      go_end0
      exact ⟨rfl, (unhide HK0).trans (unhide HKr)⟩
def BoolsIn (w : World) (B : Nat) (l : List Bool) : Prop := w.heap[B]? = some (.cells (l.map (fun z => Value.bool z)).toArray 4)
theorem BoolsIn.kept {w w' : World} {B : Nat} {l : List Bool} (h : BoolsIn w B l) (k : Kept w w') : BoolsIn w' B l := lays_kept k h
theorem BoolsIn.cell {w : World} {B : Nat} {l : List Bool} (h : BoolsIn w B l) {k : Nat} (hk : k < l.length) : w.cell? ⟨B, k, none⟩ = some (.bool (l.getD k false)) := by
  rw [cell_lays h k]; simp [hk, List.getD]
theorem BoolsIn.frozen {w : World} {B : Nat} {l : List Bool} (h : BoolsIn w B l) (k : Nat) : w.frozen? ⟨B, k, none⟩ = false := frozen_lays h k
theorem BoolsIn.set {w : World} {B : Nat} {l : List Bool} (h : BoolsIn w B l) (k : Nat) (z : Bool) : BoolsIn (w.setCell ⟨B, k, none⟩ (.bool z)) B (l.set k z) := by
  unfold BoolsIn at *
  rw [lays_set h k]
  congr 2
  simp [List.map_set]
theorem BoolsIn.lt {w : World} {B : Nat} {l : List Bool} (h : BoolsIn w B l) : B < w.heap.size := (Array.getElem?_eq_some_iff.1 h).1
theorem BoolsIn.other {w : World} {B : Nat} {l : List Bool} (h : BoolsIn w B l) {p : Addr} (hp : p.block ≠ B) (u : Value) : BoolsIn (w.setCell p u) B l := lays_other h (fun e => hp e.symm) u
def BoolsAt (w : World) (v : Value) (l : List Bool) : Prop :=
  ∃ oa cap, v = .slice oa l.length cap ∧ l.length ≤ 8796093022208 ∧ ∀ i z, l[i]? = some z → ∃ b o, oa = some ⟨b, o, none⟩ ∧ w.cell? ⟨b, o + i, none⟩ = some (.bool z)
theorem BoolsAt.kept {w w' : World} (h : Kept w w') {v : Value} {l : List Bool} (hl : BoolsAt w v l) : BoolsAt w' v l := by
  obtain ⟨oa, cap, e, hn, hi⟩ := hl
  refine ⟨oa, cap, e, hn, fun i z hz => ?_⟩
  obtain ⟨b, o, e1, h1⟩ := hi i z hz
  exact ⟨b, o, e1, h.cell h1⟩
theorem BoolsAt.nil (w : World) : BoolsAt w (.slice none 0 0) [] := ⟨none, 0, rfl, by simp, fun i z h => by simp at h⟩
theorem BoolsIn.slice {w : World} {B : Nat} {l : List Bool} (h : BoolsIn w B l) (hl : l.length ≤ 8796093022208) {n m : Nat} (hn : n = l.length) : BoolsAt w (.slice (some ⟨B, 0, none⟩) n m) l := by
  subst hn
  refine ⟨_, _, rfl, hl, fun i z hz => ⟨B, 0, rfl, ?_⟩⟩
  have hi := (List.getElem?_eq_some_iff.1 hz).1
  rw [Nat.zero_add, h.cell hi]
  simp [List.getD, hz]
theorem infoBool : (Tryz.prog.info? 4).map (fun i => (i.zero, i.size, i.bytes)) = some (some (.bool false), 1, 1) := by kernel_rfl
theorem made_bools (m : Nat) : madeCells #[.bool false] m = ((List.replicate m false).map (fun z => Value.bool z)).toArray := by
  apply Array.ext
  · simp [madeCells]
  · intro i h1 h2
    simp [madeCells, Nat.mod_one]
theorem make_bools (m : Nat) (hm : m ≤ 1000000) (u : World) : (Instr.makeSlice 163 (.int .i64 m) (.int .i64 m)).run Tryz.prog u =
    .ok (.slice (some ⟨u.heap.size, 0, none⟩) m m) (u.alloc (.cells ((List.replicate m false).map (fun z => Value.bool z)).toArray 4)) := by
  obtain ⟨i0, hi, hz0, hz1, hz2⟩ := info_parts infoBool
  have h := run_make (P := Tryz.prog) u 163 4 i0 (.bool false) Tryz.underlying163 hi hz0 .i64 .i64 (m : Int) (m : Int) (by omega) (Int.le_refl _) (by rw [hz2]; omega) (by omega)
  rw [Int.toNat_natCast] at h
  rw [← made_bools]
  simpa [hz1, Value.cells] using h
def flagsArr (B : List Bool) : Array Value := (B.map fun z => Value.bool z).toArray
theorem flags_get {B : List Bool} {i : Nat} (h : i < B.length) : (flagsArr B)[i]? = some (.bool (B.getD i false)) := by
  simp [flagsArr, List.getD, h]
theorem flags_set (B : List Bool) (i : Nat) : (flagsArr B).setIfInBounds i (.bool true) = flagsArr (B.set i true) := by
  simp [flagsArr, List.map_set]
def isNo : Value → Bool | .bool false => true | _ => false
def noFlags : Option Obj → Nat
  | some (.cells c _ _) => (c.toList.filter isNo).length
  | _ => 0
theorem noFlags_eq (B : List Bool) (t : TypeId) : noFlags (some (.cells (flagsArr B) t (0, 0))) = unvB B := by
  simp only [noFlags, flagsArr, unvB]
  induction B with
  | nil => rfl
  | cons b r ih =>
    simp only [List.map_cons, List.filter_cons] at ih ⊢
    cases b
    · simp only [isNo, Bool.not_false, if_true, List.length_cons]
      simpa using ih
    · simpa [isNo] using ih
theorem unvB_rep (n : Nat) : unvB (List.replicate n false) = n := by
  simp [unvB]
def JLinePost (s : St) (w : World) (e : Ending) (w' : World) : Prop :=
  Kept w w' ∧ match jlineS s with
    | none => e = left 1
    | some B => ∃ g, e = .returned (.slice (some ⟨g, 0, none⟩) s.fibers.length s.fibers.length) ∧ B.length = s.fibers.length ∧ w'.heap[g]? = some (.cells (flagsArr B) 4)
theorem jline_step {fs : List Fb} {k : Nat} {n : Int} {B : List Bool} (h : n ≠ -1) (h1 : B.getD n.toNat false = false) (h2 : decide (callerOf fs n = -1) = decide (n = 0)) : jlineF fs (k + 1) n B = jlineF fs k (callerOf fs n) (B.set n.toNat true) := by
  conv => lhs; unfold jlineF
  rw [if_neg h, if_neg]
  rw [h1, h2]; simp
theorem jline_stop {fs : List Fb} {k : Nat} {n : Int} {B : List Bool} (h : n ≠ -1) (h1 : B.getD n.toNat false = true ∨ decide (callerOf fs n = -1) ≠ decide (n = 0)) : jlineF fs (k + 1) n B = none := by
  conv => lhs; unfold jlineF
  rw [if_neg h, if_pos h1]
theorem askLine_any (p : List Fn) (s : St) (v : Value) (w : World) (hj : JudgeV w v p s) (hlim : limS s = 0) :
    Calls Tryz.prog 126 #[v] w fun e w' => JLinePost s w e w' := by
  obtain ⟨hf5, _, _, hpos, ⟨hn0, hn1⟩, hcal⟩ := limS_zero hlim
  obtain ⟨vF, vO, vp, vh, rfl, h1, h2, h3, _⟩ := hj
  obtain ⟨of, cf, rfl, hfl, hcell⟩ := h1
  have hmk := make_bools s.fibers.length (by omega)
  have HC := hide hcell
  have HCAL := hide hcal
  clear hcell h2 h3 hcal hlim
  generalize hN : s.fibers.length = n at *
  have HN := hide hN
  clear hN
  go_enter Tryz.func126, Tryz.ntmps126
  go_wp2
  generalize hw0 : w.alloc (.cells #[.slice of n cf, .int .i64 s.now, vO, vp, vh] 162) = w0 at *
  generalize hB : w.heap.size = B0 at *
  have L0 : w0.heap[B0]? = some (.cells #[.slice of n cf, .int .i64 s.now, vO, vp, vh] 162) := by rw [← hw0]; exact lays_new hB
  have HY : Hid (∀ u, Kept w0 u → u.cell? ⟨B0, 0, none⟩ = some (.slice of n cf)) := hide (fun u hu => hu.cell (cell_at L0 rfl))
  have HK0 : Hid (Kept w w0) := by rw [← hw0]; exact hide ((Kept.refl w).alloc _)
  have hrep : Array.replicate n (Value.bool false) = flagsArr (List.replicate n false) := by simp [flagsArr]
  rw [hrep]
  have hsz : w0.heap.size = B0 + 1 := by rw [← hw0]; simp [hB]
  generalize hBG : B0 + 1 = BG at *
  generalize hw1 : w0.alloc (.cells (flagsArr (List.replicate n false)) 4) = w1 at *
  have L1 : w1.heap[BG]? = some (.cells (flagsArr (List.replicate n false)) 4) := by rw [← hw1]; exact lays_new hsz
  have HL1 := hide L1
  have HK1 : Hid (Kept w0 w1) := by rw [← hw1]; exact hide ((Kept.refl w0).alloc _)
  have HBG : Hid (w0.heap.size ≤ BG) := hide (by omega)
  clear hw0 hB L0 hrep hw1 L1 hBG hmk hsz
  go_loopw [4] (fun s4 wr => ∃ (m : Int) (B : List Bool), s4 = .int .i64 m ∧ -1 ≤ m ∧ m < n ∧ Hid (B.length = n) ∧ Hid (wr.heap[BG]? = some (.cells (flagsArr B) 4)) ∧ Hid (jlineF s.fibers (unvB B + 1) m B = jlineF s.fibers (n + 1) s.now (List.replicate n false)) ∧ Hid (Kept w0 wr)) (fun _ u => noFlags u.heap[BG]?)
  case atStart => exact ⟨s.now, List.replicate n false, rfl, hn0, hn1, hide (by simp), HL1, hide (by rw [unvB_rep]), HK1⟩
  case round =>
    obtain ⟨m, B, rfl, hm0, hm1, HBL, HLB, HJ, HK⟩ := hrel
    have y0 := (unhide HY) _ (unhide HK)
    by_cases hm : m = -1
    · subst hm
      have hfin : jlineF s.fibers (n + 1) s.now (List.replicate n false) = some B := by
        rw [← unhide HJ]; unfold jlineF; rfl
      have HF := hide hfin
      have ly := cell_lt y0
      simp only at ly
      clear hfin
      go_wp2
      go_loopw [51] (fun s51 wq => ∃ k : Nat, k ≤ n ∧ s51 = .int .i64 k ∧ Hid (∀ i, i < k → (B.getD i false || decide ((s.fibers.getD i Fb.zero).caller = -1)) = true) ∧ Hid (Kept wr wq)) (fun s51 _ => n - (intOf s51).toNat)
      case atStart => exact ⟨0, Nat.zero_le _, rfl, (fun i hi => by omega), Kept.refl _⟩
      case round =>
        obtain ⟨k, hkm, rfl, HA, HKq⟩ := hrel
        have hLB2 := lays_kept (unhide HKq) (unhide HLB)
        by_cases hlt : k < n
        · have hki : k < s.fibers.length := by rw [unhide HN]; exact hlt
          obtain ⟨bf, off, vf, e1, k0, k1, hfr⟩ := (unhide HC) k _ (getD_of_lt s.fibers k Fb.zero hki)
          obtain ⟨ofr, cfr, rfl, -, -⟩ := hfr
          subst e1
          have hk := ((unhide HK0).trans (unhide HK)).trans (unhide HKq)
          have l0 := hk.cell k0
          have l1 := hk.cell k1
          have hlf := cell_lt l0
          have hlg := lt_of_block hLB2
          have cb := cell_at hLB2 (flags_get (B := B) (i := k) (by rw [unhide HBL]; exact hlt))
          simp only at hlf
          have HKI := hide hki
          have HKW := hide hk
          generalize hcc : (s.fibers.getD k Fb.zero).caller = c at *
          generalize hbk : B.getD k false = bk at *
          have HCC := hide hcc
          have HBK := hide hbk
          clear hk k0 k1 hki hcc hbk hLB2
          have hkz : (0 : Int) ≤ (k : Int) := by omega
          have hkn : (k : Int) < (n : Int) := by omega
          by_cases hbt : bk = true
          · subst hbt
            go_wp2_with (go_at_call 156; refine (ask1_ok _ _ _ _ (by simp)).mono ?_; rintro e w' ⟨rfl, rfl⟩)
            go_roundw
            case rel =>
              refine ⟨k + 1, by omega, by go_num, ?_, hide (((unhide HKq).alloc _).alloc _)⟩
              intro i hi
              by_cases e : i = k
              · subst e; rw [unhide HBK]; rfl
              · exact (unhide HA) i (by omega)
            case measure => simp [intOf]; omega
          · have hbf : bk = false := by simpa using hbt
            subst hbf
            by_cases hc1 : c = -1
            · subst hc1
              go_wp2_with (go_at_call 156; refine (ask1_ok _ _ _ _ (by simp)).mono ?_; rintro e w' ⟨rfl, rfl⟩)
              go_roundw
              case rel =>
                refine ⟨k + 1, by omega, by go_num, ?_, hide (((unhide HKq).alloc _).alloc _)⟩
                intro i hi
                by_cases e : i = k
                · subst e; rw [unhide HCC]; simp
                · exact (unhide HA) i (by omega)
              case measure => simp [intOf]; omega
            · have hcb : (c == -1) = false := by rw [beq_eq_false_iff_ne]; exact hc1
              have hno : jlineS s = none := by
                unfold jlineS
                rw [unhide HN, unhide HF]
                simp only
                rw [if_neg]
                intro h
                have := all_range.1 h k hlt
                rw [unhide HBK, unhide HCC, decide_eq_false hc1] at this
                cases this
              have HNO := hide hno
              clear hno hc1 hbt
              go_wp2_with (go_at_call 156; refine (ask1_no _ _ _ _ (by simp)).mono ?_; rintro e w' ⟨rfl, rfl⟩; dsimp only [left])
              exact ⟨rfl, ((unhide HKW).alloc _).alloc _, by rw [unhide HNO]; rfl⟩
        · have hyes : jlineS s = some B := by
            unfold jlineS
            rw [unhide HN, unhide HF]
            simp only
            rw [if_pos]
            exact all_range.2 (fun i hi => (unhide HA) i (by omega))
          have HYS := hide hyes
          have HLB2 := hide hLB2
          clear hyes hLB2
          go_wp2
          go_ret
          refine ⟨((unhide HK0).trans (unhide HK)).trans (unhide HKq), ?_⟩
          rw [unhide HYS]
          exact ⟨BG, by rw [unhide HN]; rfl, by rw [unhide HBL, unhide HN], unhide HLB2⟩
    · have hmb : (m != -1) = true := by rw [bne_iff_ne]; exact hm
      have hmi : m.toNat < s.fibers.length := by have := unhide HN; omega
      obtain ⟨bf, off, vf, e1, k0, k1, hfr⟩ := (unhide HC) m.toNat _ (getD_of_lt s.fibers m.toNat Fb.zero hmi)
      have hcr := (unhide HCAL) _ (List.mem_of_getElem? (getD_of_lt s.fibers m.toNat Fb.zero hmi))
      subst e1
      have hk := (unhide HK0).trans (unhide HK)
      have l1 := hk.cell k1
      have hbg : m.toNat < B.length := by have := unhide HBL; omega
      have cb := cell_at (unhide HLB) (flags_get hbg)
      have fz := frozen_lays (unhide HLB) m.toNat
      have hce : (s.fibers.getD m.toNat Fb.zero).caller = callerOf s.fibers m := rfl
      rw [hce] at l1 hcr
      have HKW := hide hk
      obtain ⟨t, ht⟩ : ∃ t : Nat, m = t := ⟨m.toNat, by omega⟩
      have hmz : (0 : Int) ≤ m := by omega
      generalize hcc : callerOf s.fibers m = c at *
      have HCC := hide hcc
      have HBG2 := hide hbg
      clear hk k0 k1 hce hfr hcc hbg
      have hl0 := cell_lt y0
      have hlf := cell_lt l1
      have hlg := lt_of_block (unhide HLB)
      have hne1 : ¬ BG = B0 := by
        have := cell_lt ((unhide HY) w0 (Kept.refl _)); have := unhide HBG; simp only at *; omega
      simp only at hl0 hlf
      subst ht
      simp only [Int.toNat_natCast] at cb fz hmi l1
      by_cases c1 : B.getD t false = true
      · have hno : jlineS s = none := by
          have : jlineF s.fibers (n + 1) s.now (List.replicate n false) = none := by rw [← unhide HJ]; exact jline_stop hm (.inl (by rw [Int.toNat_natCast]; exact c1))
          unfold jlineS; rw [unhide HN, this]
        have HNO := hide hno
        rw [c1] at cb
        clear hno c1
        go_wp2_with (go_at_call 156; refine (ask2_no _ _ _ ((c == -1) == ((t : Int) == 0)) _ (by simp) (by simp)).mono ?_; rintro e w' ⟨rfl, rfl⟩; dsimp only [left])
        exact ⟨rfl, (unhide HKW).alloc _, by rw [unhide HNO]; rfl⟩
      · have c1f : B.getD t false = false := by simpa using c1
        rw [c1f] at cb
        by_cases hq : decide (c = -1) = decide ((t : Int) = 0)
        · have hst : jlineF s.fibers (unvB B + 1) (t : Int) B = jlineF s.fibers (unvB B) c (B.set t true) := by
            have := jline_step (fs := s.fibers) (k := unvB B) (n := (t : Int)) (B := B) hm (by rw [Int.toNat_natCast]; exact c1f) (by rw [unhide HCC]; exact hq)
            rw [unhide HCC, Int.toNat_natCast] at this
            exact this
          have hun := unvB_set B t (by have := unhide HBL; omega) c1f
          have HST := hide hst
          have HUN := hide hun
          have hbe : (c == -1) = ((t : Int) == 0) := hq
          clear hst hun c1 c1f hq
          go_wp2_with (go_at_call 156; refine (ask2_ok _ _ _ _ (by simp) (by simp)).mono ?_; rintro e w' ⟨rfl, rfl⟩)
          go_roundw
          case rel =>
            refine ⟨c, B.set t true, rfl, hcr.1, hcr.2, hide (by rw [List.length_set]; exact unhide HBL), hide ?_, hide ?_, hide (((unhide HK).setCell (p := ⟨BG, t, none⟩) (unhide HBG) _).alloc _)⟩
            · rw [← flags_set]
              exact lays_alloc (lays_set (unhide HLB) t _) _
            · rw [unhide HUN, ← unhide HST]; exact unhide HJ
          case measure =>
            have hz : ∀ o : Obj, ((wr.setCell ⟨BG, t, none⟩ (.bool true)).alloc o).heap[BG]? = some (.cells (flagsArr (B.set t true)) 4) := fun o => by
              rw [← flags_set]
              exact lays_alloc (lays_set (unhide HLB) t _) _
            rw [hz, unhide HLB, noFlags_eq, noFlags_eq]
            have := unhide HUN
            omega
        · have hno : jlineS s = none := by
            have : jlineF s.fibers (n + 1) s.now (List.replicate n false) = none := by rw [← unhide HJ]; exact jline_stop hm (.inr (by rw [unhide HCC]; exact hq))
            unfold jlineS; rw [unhide HN, this]
          have HNO := hide hno
          have hbn : ¬ (c == -1) = ((t : Int) == 0) := hq
          clear hno c1 c1f hq
          go_wp2_with (go_at_call 156; refine (ask2_no' _ _ _ true _ (by simp) (by simp; exact hbn)).mono ?_; rintro e w' ⟨rfl, rfl⟩; dsimp only [left])
          exact ⟨rfl, (unhide HKW).alloc _, by rw [unhide HNO]; rfl⟩
theorem jwaitsB_at (p : List Fn) : ∀ l : List Fr, jwaitsB p l = true ↔ ∀ i, i + 1 < l.length → jwaitB p (l.getD i Fr.zero) (11, (l.getD (i + 1) Fr.zero).fn) = true
  | [] => by simp [jwaitsB]
  | [x] => by simp [jwaitsB]
  | x :: y :: r => by
    have ih := jwaitsB_at p (y :: r)
    simp only [jwaitsB, Bool.and_eq_true, ih]
    constructor
    · rintro ⟨h1, h2⟩ i hi
      cases i with
      | zero => simpa using h1
      | succ i => simpa using h2 i (by simpa using hi)
    · intro h
      exact ⟨by simpa using h 0 (by simp), fun i hi => by simpa using h (i + 1) (by simpa using hi)⟩
def lastB (p : List Fn) (t : Fr) (isNow on : Bool) : Bool :=
  if isNow = true then decide ((t.stack.length : Int) = hAt p t) else if on = true then jwaitB p t (14, 0) else jwaitB p t (15, 0)
theorem jfiber_eq {p : List Fn} {s : St} {n : Nat} {on : Bool} {b : Fb} (hb : s.fibers.getD n Fb.zero = b) (hn : 0 < b.frames.length) :
    jfiberB p s n on = ((on || !decide (n = 0)) && ((!on && freshB p b) || (jwaitsB p b.frames && lastB p (b.frames.getD (b.frames.length - 1) Fr.zero) (decide ((n : Int) = s.now)) on))) := by
  have hl : b.frames.getLast? = some (b.frames.getD (b.frames.length - 1) Fr.zero) := by
    rw [List.getLast?_eq_getElem?]; exact getD_of_lt _ _ _ (by omega)
  unfold jfiberB lastB
  rw [hb, hl]
  simp only [decide_eq_true_eq]
def AskW (w : World) (v : Value) (p : List Fn) : Prop := ∀ (u : Value) (x : Fr) (k1 a1 : Int) (y : World), Kept w y → FrV y u x → InFrame p x →
  (jwaitB p x (k1, a1) = true → Calls Tryz.prog 161 #[v, u, .agg #[.int .i64 k1, .int .i64 a1]] y fun e w' => e = .returned (.tuple #[]) ∧ Kept y w') ∧
  (jwaitB p x (k1, a1) = false → Calls Tryz.prog 161 #[v, u, .agg #[.int .i64 k1, .int .i64 a1]] y fun e w' => e = left 1 ∧ Kept y w')
theorem askW {p : List Fn} {s : St} {v : Value} {w : World} (hj : JudgeV w v p s) (hl : HLen p) (hb : ∀ k a, k < p.length → -1000 ≤ (hgt p k).getD a 0 ∧ (hgt p k).getD a 0 ≤ 1000) : AskW w v p := by
  intro u x k1 a1 y hy hx hin
  have := askWaiting_any p s v u x k1 a1 y (hj.kept hy) hx hl hin hb
  constructor
  · intro h; rw [h] at this; exact this
  · intro h; rw [h] at this; exact this
theorem AskW.kept {w w' : World} (hk : Kept w w') {v : Value} {p : List Fn} (h : AskW w v p) : AskW w' v p := fun u x k1 a1 y hy => h u x k1 a1 y (hk.trans hy)
theorem askFiber_none (nn N cf cfr : Nat) (of ofr : Option Addr) (vO vp vh : Value) (now : Int) (bf off : Nat) (on : Bool) (w : World) (hN : nn < N)
    (k0 : w.cell? ⟨bf, off + nn * 2, none⟩ = some (.slice ofr 0 cfr)) (hof : of = some ⟨bf, off, none⟩) :
    Calls Tryz.prog 127 #[.agg #[.slice of N cf, .int .i64 now, vO, vp, vh], .int .i64 nn, .bool on] w fun e w' => e = askEnd 1 (!on) ∧ Kept w w' := by
  subst hof
  have hn1 : (nn : Int) < (N : Int) := by omega
  have hn0 : (0 : Int) ≤ (nn : Int) := by omega
  have lf := cell_lt k0
  simp only at lf
  cases on with
  | true =>
    go_enter Tryz.func127, Tryz.ntmps127
    go_wp2_with (go_at_call 156; refine (ask1_no _ _ _ _ (by simp)).mono ?_; rintro e w' ⟨rfl, rfl⟩; dsimp only [left])
    exact ⟨rfl, rfl, ((Kept.refl w).alloc _).alloc _⟩
  | false =>
    go_enter Tryz.func127, Tryz.ntmps127
    go_wp2_with (go_at_call 156; refine (ask1_ok _ _ _ _ (by simp)).mono ?_; rintro e w' ⟨rfl, rfl⟩)
    first | go_end0 | refine bodyPost_ret (results_none rfl _ _ _) rfl ?_
    exact ⟨rfl, ((Kept.refl w).alloc _).alloc _⟩
end Go.Proofs.YtokhibfenccijaaGreatDoor
