/- StateZa, ProgA, StateJ -/
import Derived.Test.YtokhibfenccijaaGreatDoorKB32
import Derived.Deep.RegionHeld3
import Derived.Deep.DeepCutAuto
import Derived.Deep.RegionHeld2
import Derived.Test.YtokhibfenccijaaGreatDoorKB15
import Derived.Test.YtokhibfenccijaaGreatDoorKB03
import Derived.Test.YtokhibfenccijaaGreatDoorKB33
import Derived.Laws.Pointers
set_option maxRecDepth 100000
set_option maxHeartbeats 8000000
namespace Go.Proofs.YtokhibfenccijaaGreatDoor
open Go.RowKit
theorem askFiber_off (p : List Fn) (s : St) (nn N cf bf off : Nat) (vO vp vh : Value) (b : Fb) (vfr : Value) (w : World) (hN : nn < N)
    (hj : JudgeV w (.agg #[.slice (some ⟨bf, off, none⟩) N cf, .int .i64 s.now, vO, vp, vh]) p s) (hl : HLen p) (hbd : HBound p)
    (k0 : w.cell? ⟨bf, off + nn * 2, none⟩ = some vfr) (hf : FramesAt w vfr b.frames) (hb : s.fibers.getD nn Fb.zero = b) (hn : 0 < b.frames.length) (hfl : b.frames.length ≤ 1000) (hall : b.frames.all (frameB p) = true) (r : Bool) (hr : jfiberB p s nn false = r) :
    Calls Tryz.prog 127 #[.agg #[.slice (some ⟨bf, off, none⟩) N cf, .int .i64 s.now, vO, vp, vh], .int .i64 nn, .bool false] w fun e w' => e = askEnd 1 r ∧ Kept w w' := by
  rw [jfiber_eq hb hn] at hr
  have hin : ∀ i, i < b.frames.length → InFrame p (b.frames.getD i Fr.zero) := fun i hi => InFrame.of (all_getD hall hi)
  have haw := askW hj hl hbd
  have hht : ∀ (u : Value) (x : Fr) (y : World), Kept w y → FrV y u x → InFrame p x → Calls Tryz.prog 159 #[.agg #[.slice (some ⟨bf, off, none⟩) N cf, .int .i64 s.now, vO, vp, vh], u] y fun e w' => e = .returned (.int .i64 (hAt p x)) ∧ Kept y w' := fun u x y hy hx h => height_any p s _ u x y (hj.kept hy) hx hl h
  have hfv : ∀ i, i < b.frames.length → ∃ bg og vl vs, vfr = .slice (some ⟨bg, og, none⟩) b.frames.length (match vfr with | .slice _ _ c => c | _ => 0) ∧ w.cell? ⟨bg, og + i * 4, none⟩ = some (.int .i64 (b.frames.getD i Fr.zero).fn) ∧ w.cell? ⟨bg, og + i * 4 + 1, none⟩ = some (.int .i64 (b.frames.getD i Fr.zero).at_) ∧ w.cell? ⟨bg, og + i * 4 + 2, none⟩ = some vl ∧ w.cell? ⟨bg, og + i * 4 + 3, none⟩ = some vs ∧ IntsW w vl (b.frames.getD i Fr.zero).locals ∧ IntsW w vs (b.frames.getD i Fr.zero).stack := by
    intro i hi
    obtain ⟨oa, cap, e, _, hc⟩ := id hf
    obtain ⟨b', o', vl, vs, e1, r⟩ := hc i _ (getD_of_lt b.frames i Fr.zero hi)
    subst e e1
    exact ⟨b', o', vl, vs, rfl, r⟩
  have hfresh : ∀ y, Kept w y → Calls Tryz.prog 160 #[.agg #[.slice (some ⟨bf, off, none⟩) N cf, .int .i64 s.now, vO, vp, vh], vfr] y fun e w' => e = .returned (.bool (freshB p b)) ∧ Kept y w' := fun y hy => isFresh_any p s _ _ b y (hj.kept hy) (hf.kept hy) hn (fun x hx => by
    have := InFrame.of (List.all_eq_true.1 hall x hx)
    exact ⟨this.fn0, this.fn1⟩)
  obtain ⟨ofr, cfr, rfl, ⟨hq8, hqc⟩, -⟩ := id hf
  obtain ⟨bg, og, _, _, e0, _⟩ := hfv 0 hn
  obtain ⟨rfl, -⟩ := (by simpa using e0 : ofr = some ⟨bg, og, none⟩ ∧ True)
  have hcl : ∀ i, i < b.frames.length → ∃ vl vs, w.cell? ⟨bg, og + i * 4, none⟩ = some (.int .i64 (b.frames.getD i Fr.zero).fn) ∧ w.cell? ⟨bg, og + i * 4 + 1, none⟩ = some (.int .i64 (b.frames.getD i Fr.zero).at_) ∧ w.cell? ⟨bg, og + i * 4 + 2, none⟩ = some vl ∧ w.cell? ⟨bg, og + i * 4 + 3, none⟩ = some vs ∧ IntsW w vl (b.frames.getD i Fr.zero).locals ∧ IntsW w vs (b.frames.getD i Fr.zero).stack := by
    intro i hi
    obtain ⟨bg', og', vl, vs, e1, r⟩ := hfv i hi
    obtain ⟨⟨rfl, rfl⟩, -⟩ := (by simpa using e1 : (bg = bg' ∧ og = og') ∧ True)
    exact ⟨vl, vs, r⟩
  have HCL := hide hcl
  have HAW := hide haw
  have HHT := hide hht
  have HFR := hide hfresh
  have HIN := hide hin
  have HR := hide hr
  have K0 := hide k0
  clear hj hl hbd hf hb hr hin haw hht hfv hfresh hcl e0 hall
  generalize hq : b.frames.length = q at *
  have HQ := hide hq
  clear hq
  obtain ⟨top, htop⟩ : ∃ top : Nat, q = top + 1 := ⟨q - 1, by omega⟩
  subst htop
  have hn1 : (nn : Int) < (N : Int) := by omega
  have hn0 : (0 : Int) ≤ (nn : Int) := by omega
  have hqb : (((top + 1 : Nat) : Int) == 0) = false := by rw [beq_eq_false_iff_ne]; omega
  have hwt : IntKind.i64.wrap (((top + 1 : Nat) : Int) - 1) = (top : Int) := by rw [wrap_tiny _ (by omega) (by omega)]; omega
  have hts : ((top + 1 : Nat) : Int) - 1 = (top : Int) := by omega
  have htc : (top : Int) ≤ (cfr : Int) := by omega
  have ht0 : (0 : Int) ≤ (top : Int) := by omega
  have hqb2 : ((top : Int) + 1 == 0) = false := by rw [beq_eq_false_iff_ne]; omega
  have hwt2 : IntKind.i64.wrap ((top : Int) + 1 - 1) = (top : Int) := by rw [wrap_tiny _ (by omega) (by omega)]; omega
  have hwt3 : IntKind.i64.wrap (top : Int) = (top : Int) := wrap_tiny _ (by omega) (by omega)
  have hts2 : (top : Int) + 1 - 1 = (top : Int) := by omega
  have k0 := unhide K0
  have lf := cell_lt k0
  simp only at lf
  by_cases hz0 : nn = 0
  · subst hz0
    simp only [Nat.zero_mul, Nat.add_zero] at k0
    have hN0 : (0 : Int) < (N : Int) := by omega
    have hrf : r = false := by rw [← unhide HR]; rfl
    subst hrf
    clear HR
    go_enter Tryz.func127, Tryz.ntmps127
    go_wp2_with (go_at_call 156; refine (ask1_no _ _ _ _ (by simp)).mono ?_; rintro e w' ⟨rfl, rfl⟩; dsimp only [left])
    exact ⟨rfl, rfl, ((Kept.refl w).alloc _).alloc _⟩
  have hzb : ((nn : Int) != 0) = true := by rw [bne_iff_ne]; omega
  by_cases hfs : freshB p b = true
  · have hrt : r = true := by rw [← unhide HR, hfs]; simp [hz0]
    subst hrt
    have HFR2 : Hid (∀ y, Kept w y → Calls Tryz.prog 160 #[.agg #[.slice (some ⟨bf, off, none⟩) N cf, .int .i64 s.now, vO, vp, vh], .slice (some ⟨bg, og, none⟩) (top + 1) cfr] y fun e w' => e = .returned (.bool true) ∧ Kept y w') := hide (fun y hy => by have := (unhide HFR) y hy; rwa [hfs] at this)
    clear HR HFR hfs hz0
    go_enter Tryz.func127, Tryz.ntmps127
    go_wp2_with (first | (go_at_call 156; refine (ask1_ok _ _ _ _ (by simp)).mono ?_; rintro e w' ⟨rfl, rfl⟩) | (go_at_call 160; refine ((unhide HFR2) _ (by repeat (first | exact Kept.refl _ | refine Kept.drew ?_ | refine Kept.alloc ?_ _))).mono ?_; rintro e wF ⟨rfl, hkF⟩))
    first | go_end0 | refine bodyPost_ret (results_none rfl _ _ _) rfl ?_
    exact ⟨rfl, Kept.trans (by repeat (first | exact Kept.refl _ | refine Kept.drew ?_ | refine Kept.alloc ?_ _)) hkF⟩
  have hff : freshB p b = false := by simpa using hfs
  have hr2 : (jwaitsB p b.frames && lastB p (b.frames.getD top Fr.zero) (decide ((nn : Int) = s.now)) false) = r := by
    rw [← unhide HR, hff]; simp [hz0]
  have HR2 := hide hr2
  have HFR2 : Hid (∀ y, Kept w y → Calls Tryz.prog 160 #[.agg #[.slice (some ⟨bf, off, none⟩) N cf, .int .i64 s.now, vO, vp, vh], .slice (some ⟨bg, og, none⟩) (top + 1) cfr] y fun e w' => e = .returned (.bool false) ∧ Kept y w') := hide (fun y hy => by have := (unhide HFR) y hy; rwa [hff] at this)
  clear hr2 HR HFR hfs hff hz0
  go_enter Tryz.func127, Tryz.ntmps127
  go_wp2_with (first | (go_at_call 156; refine (ask1_ok _ _ _ _ (by simp)).mono ?_; rintro e w' ⟨rfl, rfl⟩) | (go_at_call 160; refine ((unhide HFR2) _ (by repeat (first | exact Kept.refl _ | refine Kept.drew ?_ | refine Kept.alloc ?_ _))).mono ?_; rintro e w0 ⟨rfl, hkF⟩))
  have L0 : w0.heap[w.heap.size]? = some (.cells #[.slice (some ⟨bf, off, none⟩) N cf, .int .i64 s.now, vO, vp, vh] 162) := lays_kept hkF (lays_alloc (lays_new rfl) _)
  generalize hB : w.heap.size = B0 at *
  have HK0 : Hid (Kept w w0) := hide (Kept.trans (by repeat (first | exact Kept.refl _ | refine Kept.drew ?_ | refine Kept.alloc ?_ _)) hkF)
  have HYB : Hid (∀ u, Kept w0 u → u.cell? ⟨B0, 0, none⟩ = some (.slice (some ⟨bf, off, none⟩) N cf) ∧ u.cell? ⟨B0, 1, none⟩ = some (.int .i64 s.now) ∧ u.cell? ⟨B0, 2, none⟩ = some vO ∧ u.cell? ⟨B0, 3, none⟩ = some vp ∧ u.cell? ⟨B0, 4, none⟩ = some vh) := hide (fun u hu => ⟨hu.cell (cell_at L0 rfl), hu.cell (cell_at L0 rfl), hu.cell (cell_at L0 rfl), hu.cell (cell_at L0 rfl), hu.cell (cell_at L0 rfl)⟩)
  clear hB L0 k0 lf hkF HFR2
  go_loopw [45] (fun s45 wr => ∃ k : Nat, k ≤ top ∧ s45 = .int .i64 k ∧ Hid (∀ i, i < k → jwaitB p (b.frames.getD i Fr.zero) (11, (b.frames.getD (i + 1) Fr.zero).fn) = true) ∧ Hid (Kept w0 wr)) (fun s45 _ => top - (intOf s45).toNat)
  case atStart => exact ⟨0, Nat.zero_le _, rfl, (fun i hi => by omega), Kept.refl _⟩
  case round =>
    obtain ⟨k, hkm, rfl, HA, HKr⟩ := hrel
    have hkw := (unhide HK0).trans (unhide HKr)
    have HKW := hide hkw
    by_cases hlt : k < top
    · obtain ⟨vl, vs, c0, c1, c2, c3, hvl, hvs⟩ := (unhide HCL) k (by omega)
      obtain ⟨_, _, e0, -⟩ := (unhide HCL) (k + 1) (by omega)
      have hinx := (unhide HIN) k (by omega)
      generalize hX : b.frames.getD k Fr.zero = x at *
      generalize hYe : b.frames.getD (k + 1) Fr.zero = y at *
      have HX := hide hX
      have HYE := hide hYe
      have hfvx : FrV wr (.agg #[.int .i64 x.fn, .int .i64 x.at_, vl, vs]) x := ⟨vl, vs, rfl, hvl.kept hkw, hvs.kept hkw⟩
      have HFV := hide hfvx
      have HINX := hide hinx
      obtain ⟨ol, cl, rfl, -, -⟩ := hvl
      obtain ⟨os, cs, rfl, -, -⟩ := hvs
      generalize x.locals.length = nl at *
      generalize x.stack.length = ns at *
      have d0 := hkw.cell c0
      have d1 := hkw.cell c1
      have d2 := hkw.cell c2
      have d3 := hkw.cell c3
      have E0 := hide e0
      have hk1 : (k : Int) < (top : Int) := by omega
      have hkz : (0 : Int) ≤ (k : Int) := by omega
      have hk2 : (k : Int) + 1 < (top : Int) + 1 := by omega
      have hkz2 : (0 : Int) ≤ (k : Int) + 1 := by omega
      have hkt : ((k : Int) + 1).toNat = k + 1 := by omega
      have hwk : IntKind.i64.wrap ((k : Int) + 1) = (k : Int) + 1 := wrap_tiny _ (by omega) (by omega)
      clear hX hYe hfvx hinx c0 c1 c2 c3 e0 hkw
      go_wp2_with fail
      generalize hwz : wr.alloc (.cells #[.int .i64 x.fn, .int .i64 x.at_, .slice ol nl cl, .slice os ns cs] 92) = wz at *
      generalize hBX : wr.heap.size = BX at *
      have LX : wz.heap[BX]? = some (.cells #[.int .i64 x.fn, .int .i64 x.at_, .slice ol nl cl, .slice os ns cs] 92) := by rw [← hwz]; exact lays_new hBX
      have hkx : Kept wr wz := by rw [← hwz]; exact (Kept.refl wr).alloc _
      have HYR : Hid (∀ u, Kept wz u → u.cell? ⟨B0, 0, none⟩ = some (.slice (some ⟨bf, off, none⟩) N cf) ∧ u.cell? ⟨B0, 1, none⟩ = some (.int .i64 s.now) ∧ u.cell? ⟨B0, 2, none⟩ = some vO ∧ u.cell? ⟨B0, 3, none⟩ = some vp ∧ u.cell? ⟨B0, 4, none⟩ = some vh ∧ u.cell? ⟨BX, 0, none⟩ = some (.int .i64 x.fn) ∧ u.cell? ⟨BX, 1, none⟩ = some (.int .i64 x.at_) ∧ u.cell? ⟨BX, 2, none⟩ = some (.slice ol nl cl) ∧ u.cell? ⟨BX, 3, none⟩ = some (.slice os ns cs) ∧ u.cell? ⟨bg, og + (k + 1) * 4, none⟩ = some (.int .i64 y.fn)) := hide (fun u hu => by
        obtain ⟨y0, y1, y2, y3, y4⟩ := (unhide HYB) u (((unhide HKr).trans hkx).trans hu)
        exact ⟨y0, y1, y2, y3, y4, hu.cell (cell_at LX rfl), hu.cell (cell_at LX rfl), hu.cell (cell_at LX rfl), hu.cell (cell_at LX rfl), (((unhide HKW).trans hkx).trans hu).cell (unhide E0)⟩)
      have HKz := hide ((unhide HKr).trans hkx)
      have hax := fun (u : World) (hu : Kept wz u) => (unhide HAW) _ x 11 y.fn u (((unhide HKW).trans hkx).trans hu) ((unhide HFV).kept (hkx.trans hu)) (unhide HINX)
      have HKZW := hide ((unhide HKW).trans hkx)
      clear hwz hBX LX hkx d0 d1 d2 d3 E0
      by_cases hww : jwaitB p x (11, y.fn) = true
      · have HAX : Hid (∀ u, Kept wz u → Calls Tryz.prog 161 #[.agg #[.slice (some ⟨bf, off, none⟩) N cf, .int .i64 s.now, vO, vp, vh], .agg #[.int .i64 x.fn, .int .i64 x.at_, .slice ol nl cl, .slice os ns cs], .agg #[.int .i64 11, .int .i64 y.fn]] u fun e w' => e = .returned (.tuple #[]) ∧ Kept u w') := hide (fun u hu => (hax u hu).1 hww)
        have HWW := hide hww
        clear hax hww
        go_region_held2 (fun u => u.cell? ⟨B0, 0, none⟩ = some (.slice (some ⟨bf, off, none⟩) N cf) ∧ u.cell? ⟨B0, 1, none⟩ = some (.int .i64 s.now) ∧ u.cell? ⟨B0, 2, none⟩ = some vO ∧ u.cell? ⟨B0, 3, none⟩ = some vp ∧ u.cell? ⟨B0, 4, none⟩ = some vh ∧ u.cell? ⟨BX, 0, none⟩ = some (.int .i64 x.fn) ∧ u.cell? ⟨BX, 1, none⟩ = some (.int .i64 x.at_) ∧ u.cell? ⟨BX, 2, none⟩ = some (.slice ol nl cl) ∧ u.cell? ⟨BX, 3, none⟩ = some (.slice os ns cs) ∧ u.cell? ⟨bg, og + (k + 1) * 4, none⟩ = some (.int .i64 y.fn))
          (first | exact (unhide HYR) _ (Kept.trans (Kept.trans (by repeat (first | exact Kept.refl _ | refine Kept.drew ?_ | refine Kept.alloc ?_ _)) hkC) (by repeat (first | exact Kept.refl _ | refine Kept.drew ?_ | refine Kept.alloc ?_ _))) | exact (unhide HYR) _ (Kept.trans (Kept.trans (by repeat (first | exact Kept.refl _ | refine Kept.drew ?_ | refine Kept.alloc ?_ _)) hkA) (by repeat (first | exact Kept.refl _ | refine Kept.drew ?_ | refine Kept.alloc ?_ _))) | exact (unhide HYR) _ (by repeat (first | exact Kept.refl _ | refine Kept.drew ?_ | refine Kept.alloc ?_ _)))
          (first | (go_at_call 161; refine ((unhide HAX) _ (by repeat (first | exact Kept.refl _ | refine Kept.drew ?_ | refine Kept.alloc ?_ _))).mono ?_; rintro e wC ⟨rfl, hkC⟩))
        all_goals go_wp2_with fail
        go_roundw
        case rel =>
          refine ⟨k + 1, by omega, by go_num, ?_, hide (Kept.trans (unhide HKz) (Kept.trans (by repeat (first | exact Kept.refl _ | refine Kept.drew ?_ | refine Kept.alloc ?_ _)) hkC))⟩
          intro i hi
          by_cases e : i = k
          · subst e; rw [unhide HX, unhide HYE]; exact unhide HWW
          · exact (unhide HA) i (by omega)
        case measure => simp [intOf]; omega
      · have hwf : jwaitB p x (11, y.fn) = false := by simpa using hww
        have HAX : Hid (∀ u, Kept wz u → Calls Tryz.prog 161 #[.agg #[.slice (some ⟨bf, off, none⟩) N cf, .int .i64 s.now, vO, vp, vh], .agg #[.int .i64 x.fn, .int .i64 x.at_, .slice ol nl cl, .slice os ns cs], .agg #[.int .i64 11, .int .i64 y.fn]] u fun e w' => e = left 1 ∧ Kept u w') := hide (fun u hu => (hax u hu).2 hwf)
        have hrf : r = false := by
              rw [← unhide HR2]
              have : jwaitsB p b.frames = false := by
                rw [Bool.eq_false_iff]; intro h
                have := (jwaitsB_at p b.frames).1 h k (by rw [unhide HQ]; omega)
                rw [unhide HX, unhide HYE, hwf] at this; cases this
              rw [this]; simp
        subst hrf
        clear hax hww hwf HR2
        go_region_held2 (fun u => u.cell? ⟨B0, 0, none⟩ = some (.slice (some ⟨bf, off, none⟩) N cf) ∧ u.cell? ⟨B0, 1, none⟩ = some (.int .i64 s.now) ∧ u.cell? ⟨B0, 2, none⟩ = some vO ∧ u.cell? ⟨B0, 3, none⟩ = some vp ∧ u.cell? ⟨B0, 4, none⟩ = some vh ∧ u.cell? ⟨BX, 0, none⟩ = some (.int .i64 x.fn) ∧ u.cell? ⟨BX, 1, none⟩ = some (.int .i64 x.at_) ∧ u.cell? ⟨BX, 2, none⟩ = some (.slice ol nl cl) ∧ u.cell? ⟨BX, 3, none⟩ = some (.slice os ns cs) ∧ u.cell? ⟨bg, og + (k + 1) * 4, none⟩ = some (.int .i64 y.fn))
          (first | exact hF.elim | exact (unhide HYR) _ (Kept.trans (Kept.trans (by repeat (first | exact Kept.refl _ | refine Kept.drew ?_ | refine Kept.alloc ?_ _)) hkC) (by repeat (first | exact Kept.refl _ | refine Kept.drew ?_ | refine Kept.alloc ?_ _))) | exact (unhide HYR) _ (Kept.trans (Kept.trans (by repeat (first | exact Kept.refl _ | refine Kept.drew ?_ | refine Kept.alloc ?_ _)) hkA) (by repeat (first | exact Kept.refl _ | refine Kept.drew ?_ | refine Kept.alloc ?_ _))) | exact (unhide HYR) _ (by repeat (first | exact Kept.refl _ | refine Kept.drew ?_ | refine Kept.alloc ?_ _)))
          (first | (go_at_call 161; refine ((unhide HAX) _ (by repeat (first | exact Kept.refl _ | refine Kept.drew ?_ | refine Kept.alloc ?_ _))).mono ?_; rintro e wC ⟨rfl, hkC⟩; dsimp only [left]; refine (Classical.em False).elim (fun hF => ?_) (fun _ => ⟨rfl, rfl, Kept.trans (unhide HKZW) (Kept.trans (by repeat (first | exact Kept.refl _ | refine Kept.drew ?_ | refine Kept.alloc ?_ _)) hkC)⟩); refine viaK ‹Shut _› hF ⟨#[], []⟩ w ?_))
        all_goals exact hF.elim
    · have hwaits : jwaitsB p b.frames = true := (jwaitsB_at p b.frames).2 (fun i hi => (unhide HA) i (by have := unhide HQ; omega))
      have hr3 := unhide HR2
      rw [hwaits, Bool.true_and] at hr3
      obtain ⟨tl, ts, c0, c1, c2, c3, hvl, hvs⟩ := (unhide HCL) top (by omega)
      have hint := (unhide HIN) top (by omega)
      generalize hT : b.frames.getD top Fr.zero = t at *
      have hfvt : FrV wr (.agg #[.int .i64 t.fn, .int .i64 t.at_, tl, ts]) t := ⟨tl, ts, rfl, hvl.kept hkw, hvs.kept hkw⟩
      have HFV := hide hfvt
      have HINT := hide hint
      obtain ⟨tlo, tlc, rfl, -, -⟩ := hvl
      obtain ⟨tso, tsc, rfl, -, -⟩ := hvs
      have htn : t.stack.length = t.stack.length := rfl
      generalize t.locals.length = tln at *
      generalize htsn : t.stack.length = tsn at *
      have HTSN := hide htsn
      have HYR : Hid (∀ u, Kept wr u → u.cell? ⟨B0, 0, none⟩ = some (.slice (some ⟨bf, off, none⟩) N cf) ∧ u.cell? ⟨B0, 1, none⟩ = some (.int .i64 s.now) ∧ u.cell? ⟨B0, 2, none⟩ = some vO ∧ u.cell? ⟨B0, 3, none⟩ = some vp ∧ u.cell? ⟨B0, 4, none⟩ = some vh ∧ u.cell? ⟨bg, og + top * 4, none⟩ = some (.int .i64 t.fn) ∧ u.cell? ⟨bg, og + top * 4 + 1, none⟩ = some (.int .i64 t.at_) ∧ u.cell? ⟨bg, og + top * 4 + 2, none⟩ = some (.slice tlo tln tlc) ∧ u.cell? ⟨bg, og + top * 4 + 3, none⟩ = some (.slice tso tsn tsc)) := hide (fun u hu => by
        obtain ⟨y0, y1, y2, y3, y4⟩ := (unhide HYB) u ((unhide HKr).trans hu)
        exact ⟨y0, y1, y2, y3, y4, (hkw.trans hu).cell c0, (hkw.trans hu).cell c1, (hkw.trans hu).cell c2, (hkw.trans hu).cell c3⟩)
      obtain ⟨y0, y1, y2, y3, y4⟩ := (unhide HYB) wr (unhide HKr)
      have hax := fun (u : World) (hu : Kept wr u) => (unhide HAW) _ t 15 0 u (hkw.trans hu) ((unhide HFV).kept hu) (unhide HINT)
      have hhx := fun (u : World) (hu : Kept wr u) => (unhide HHT) _ t u (hkw.trans hu) ((unhide HFV).kept hu) (unhide HINT)
      have htl : (top : Int) < (top : Int) + 1 := by omega
      have hdl : decide ((k : Int) < (top : Int)) = false := decide_eq_false (by omega)
      have HR3 := hide hr3
      clear hwaits hr3 c0 c1 c2 c3 hT hfvt hint hkw htn htsn HR2
      by_cases hnow : (nn : Int) = s.now
      · have hnb : ((nn : Int) == s.now) = true := by rw [beq_iff_eq]; exact hnow
        have hr4 : decide ((tsn : Int) = hAt p t) = r := by
          rw [← unhide HR3]; unfold lastB; rw [decide_eq_true hnow, if_pos rfl, unhide HTSN]
        have HHX := hide hhx
        have HR4 := hide hr4
        clear hax hhx hr4 hnow HR3
        generalize hAt p t = z at *
        by_cases hz : (tsn : Int) = z
        · have hzb : ((tsn : Int) == z) = true := by rw [beq_iff_eq]; exact hz
          have hrt : r = true := by rw [← unhide HR4]; exact decide_eq_true hz
          subst hrt
          clear hz HR4
          go_wp2_with fail
          go_region_held2 (fun u => u.cell? ⟨B0, 0, none⟩ = some (.slice (some ⟨bf, off, none⟩) N cf) ∧ u.cell? ⟨B0, 1, none⟩ = some (.int .i64 s.now) ∧ u.cell? ⟨B0, 2, none⟩ = some vO ∧ u.cell? ⟨B0, 3, none⟩ = some vp ∧ u.cell? ⟨B0, 4, none⟩ = some vh ∧ u.cell? ⟨bg, og + top * 4, none⟩ = some (.int .i64 t.fn) ∧ u.cell? ⟨bg, og + top * 4 + 1, none⟩ = some (.int .i64 t.at_) ∧ u.cell? ⟨bg, og + top * 4 + 2, none⟩ = some (.slice tlo tln tlc) ∧ u.cell? ⟨bg, og + top * 4 + 3, none⟩ = some (.slice tso tsn tsc))
            (first | exact (unhide HYR) _ (Kept.trans (Kept.trans (by repeat (first | exact Kept.refl _ | refine Kept.drew ?_ | refine Kept.alloc ?_ _)) hkC) (by repeat (first | exact Kept.refl _ | refine Kept.drew ?_ | refine Kept.alloc ?_ _))) | exact (unhide HYR) _ (Kept.trans (Kept.trans (by repeat (first | exact Kept.refl _ | refine Kept.drew ?_ | refine Kept.alloc ?_ _)) hkA) (by repeat (first | exact Kept.refl _ | refine Kept.drew ?_ | refine Kept.alloc ?_ _))) | exact (unhide HYR) _ (by repeat (first | exact Kept.refl _ | refine Kept.drew ?_ | refine Kept.alloc ?_ _)))
            (first | (go_at_call 159; refine ((unhide HHX) _ (by repeat (first | exact Kept.refl _ | refine Kept.drew ?_ | refine Kept.alloc ?_ _))).mono ?_; rintro e wA ⟨rfl, hkA⟩) | (go_at_call 156; refine (ask1_ok _ _ _ _ (by simp)).mono ?_; rintro e wC ⟨rfl, rfl⟩))
          all_goals go_wp2_with fail
          all_goals go_end0
          all_goals exact ⟨rfl, (Kept.trans (unhide HKW) (Kept.trans (by repeat (first | exact Kept.refl _ | refine Kept.drew ?_ | refine Kept.alloc ?_ _)) hkA)).alloc _⟩
        · have hzb : ((tsn : Int) == z) = false := by rw [beq_eq_false_iff_ne]; exact hz
          have hrt : r = false := by rw [← unhide HR4]; exact decide_eq_false hz
          subst hrt
          clear hz HR4
          go_wp2_with fail
          go_region_held2 (fun u => u.cell? ⟨B0, 0, none⟩ = some (.slice (some ⟨bf, off, none⟩) N cf) ∧ u.cell? ⟨B0, 1, none⟩ = some (.int .i64 s.now) ∧ u.cell? ⟨B0, 2, none⟩ = some vO ∧ u.cell? ⟨B0, 3, none⟩ = some vp ∧ u.cell? ⟨B0, 4, none⟩ = some vh ∧ u.cell? ⟨bg, og + top * 4, none⟩ = some (.int .i64 t.fn) ∧ u.cell? ⟨bg, og + top * 4 + 1, none⟩ = some (.int .i64 t.at_) ∧ u.cell? ⟨bg, og + top * 4 + 2, none⟩ = some (.slice tlo tln tlc) ∧ u.cell? ⟨bg, og + top * 4 + 3, none⟩ = some (.slice tso tsn tsc))
            (first | exact hF.elim | exact (unhide HYR) _ (Kept.trans (Kept.trans (by repeat (first | exact Kept.refl _ | refine Kept.drew ?_ | refine Kept.alloc ?_ _)) hkC) (by repeat (first | exact Kept.refl _ | refine Kept.drew ?_ | refine Kept.alloc ?_ _))) | exact (unhide HYR) _ (Kept.trans (Kept.trans (by repeat (first | exact Kept.refl _ | refine Kept.drew ?_ | refine Kept.alloc ?_ _)) hkA) (by repeat (first | exact Kept.refl _ | refine Kept.drew ?_ | refine Kept.alloc ?_ _))) | exact (unhide HYR) _ (by repeat (first | exact Kept.refl _ | refine Kept.drew ?_ | refine Kept.alloc ?_ _)))
            (first | (go_at_call 159; refine ((unhide HHX) _ (by repeat (first | exact Kept.refl _ | refine Kept.drew ?_ | refine Kept.alloc ?_ _))).mono ?_; rintro e wA ⟨rfl, hkA⟩) | (go_at_call 156; refine (ask1_no _ _ _ _ (by simp)).mono ?_; rintro e wC ⟨rfl, rfl⟩; dsimp only [left]; refine (Classical.em False).elim (fun hF => ?_) (fun _ => ⟨rfl, rfl, Kept.trans (unhide HKW) (Kept.trans (Kept.trans (by repeat (first | exact Kept.refl _ | refine Kept.drew ?_ | refine Kept.alloc ?_ _)) hkA) (by repeat (first | exact Kept.refl _ | refine Kept.drew ?_ | refine Kept.alloc ?_ _)))⟩); refine viaK ‹Shut _› hF ⟨#[], []⟩ w ?_))
          all_goals exact hF.elim
      · have hnb : ((nn : Int) == s.now) = false := by rw [beq_eq_false_iff_ne]; exact hnow
        have hr4 : jwaitB p t (15, 0) = r := by
          rw [← unhide HR3]; unfold lastB; rw [decide_eq_false hnow]; rfl
        clear hhx hnow HR3
        by_cases hww : jwaitB p t (15, 0) = true
        · have HAX : Hid (∀ u, Kept wr u → Calls Tryz.prog 161 #[.agg #[.slice (some ⟨bf, off, none⟩) N cf, .int .i64 s.now, vO, vp, vh], .agg #[.int .i64 t.fn, .int .i64 t.at_, .slice tlo tln tlc, .slice tso tsn tsc], .agg #[.int .i64 15, .int .i64 0]] u fun e w' => e = .returned (.tuple #[]) ∧ Kept u w') := hide (fun u hu => (hax u hu).1 hww)
          have hrt : r = true := by rw [← hr4]; exact hww
          subst hrt
          clear hax hww hr4
          go_wp2_with fail
          go_region_held2 (fun u => u.cell? ⟨B0, 0, none⟩ = some (.slice (some ⟨bf, off, none⟩) N cf) ∧ u.cell? ⟨B0, 1, none⟩ = some (.int .i64 s.now) ∧ u.cell? ⟨B0, 2, none⟩ = some vO ∧ u.cell? ⟨B0, 3, none⟩ = some vp ∧ u.cell? ⟨B0, 4, none⟩ = some vh ∧ u.cell? ⟨bg, og + top * 4, none⟩ = some (.int .i64 t.fn) ∧ u.cell? ⟨bg, og + top * 4 + 1, none⟩ = some (.int .i64 t.at_) ∧ u.cell? ⟨bg, og + top * 4 + 2, none⟩ = some (.slice tlo tln tlc) ∧ u.cell? ⟨bg, og + top * 4 + 3, none⟩ = some (.slice tso tsn tsc))
            (first | exact (unhide HYR) _ (Kept.trans (Kept.trans (by repeat (first | exact Kept.refl _ | refine Kept.drew ?_ | refine Kept.alloc ?_ _)) hkC) (by repeat (first | exact Kept.refl _ | refine Kept.drew ?_ | refine Kept.alloc ?_ _))) | exact (unhide HYR) _ (Kept.trans (Kept.trans (by repeat (first | exact Kept.refl _ | refine Kept.drew ?_ | refine Kept.alloc ?_ _)) hkA) (by repeat (first | exact Kept.refl _ | refine Kept.drew ?_ | refine Kept.alloc ?_ _))) | exact (unhide HYR) _ (by repeat (first | exact Kept.refl _ | refine Kept.drew ?_ | refine Kept.alloc ?_ _)))
            (first | (go_at_call 161; refine ((unhide HAX) _ (by repeat (first | exact Kept.refl _ | refine Kept.drew ?_ | refine Kept.alloc ?_ _))).mono ?_; rintro e wC ⟨rfl, hkC⟩))
          all_goals go_wp2_with fail
          all_goals go_end0
          all_goals exact ⟨rfl, Kept.trans (unhide HKW) (Kept.trans (by repeat (first | exact Kept.refl _ | refine Kept.drew ?_ | refine Kept.alloc ?_ _)) hkC)⟩
        · have hwf : jwaitB p t (15, 0) = false := by simpa using hww
          have HAX : Hid (∀ u, Kept wr u → Calls Tryz.prog 161 #[.agg #[.slice (some ⟨bf, off, none⟩) N cf, .int .i64 s.now, vO, vp, vh], .agg #[.int .i64 t.fn, .int .i64 t.at_, .slice tlo tln tlc, .slice tso tsn tsc], .agg #[.int .i64 15, .int .i64 0]] u fun e w' => e = left 1 ∧ Kept u w') := hide (fun u hu => (hax u hu).2 hwf)
          have hrt : r = false := by rw [← hr4]; exact hwf
          subst hrt
          clear hax hww hwf hr4
          go_wp2_with fail
          go_region_held2 (fun u => u.cell? ⟨B0, 0, none⟩ = some (.slice (some ⟨bf, off, none⟩) N cf) ∧ u.cell? ⟨B0, 1, none⟩ = some (.int .i64 s.now) ∧ u.cell? ⟨B0, 2, none⟩ = some vO ∧ u.cell? ⟨B0, 3, none⟩ = some vp ∧ u.cell? ⟨B0, 4, none⟩ = some vh ∧ u.cell? ⟨bg, og + top * 4, none⟩ = some (.int .i64 t.fn) ∧ u.cell? ⟨bg, og + top * 4 + 1, none⟩ = some (.int .i64 t.at_) ∧ u.cell? ⟨bg, og + top * 4 + 2, none⟩ = some (.slice tlo tln tlc) ∧ u.cell? ⟨bg, og + top * 4 + 3, none⟩ = some (.slice tso tsn tsc))
            (first | exact hF.elim | exact (unhide HYR) _ (Kept.trans (Kept.trans (by repeat (first | exact Kept.refl _ | refine Kept.drew ?_ | refine Kept.alloc ?_ _)) hkC) (by repeat (first | exact Kept.refl _ | refine Kept.drew ?_ | refine Kept.alloc ?_ _))) | exact (unhide HYR) _ (Kept.trans (Kept.trans (by repeat (first | exact Kept.refl _ | refine Kept.drew ?_ | refine Kept.alloc ?_ _)) hkA) (by repeat (first | exact Kept.refl _ | refine Kept.drew ?_ | refine Kept.alloc ?_ _))) | exact (unhide HYR) _ (by repeat (first | exact Kept.refl _ | refine Kept.drew ?_ | refine Kept.alloc ?_ _)))
            (first | (go_at_call 161; refine ((unhide HAX) _ (by repeat (first | exact Kept.refl _ | refine Kept.drew ?_ | refine Kept.alloc ?_ _))).mono ?_; rintro e wC ⟨rfl, hkC⟩; dsimp only [left]; refine (Classical.em False).elim (fun hF => ?_) (fun _ => ⟨rfl, rfl, Kept.trans (unhide HKW) (Kept.trans (by repeat (first | exact Kept.refl _ | refine Kept.drew ?_ | refine Kept.alloc ?_ _)) hkC)⟩); refine viaK ‹Shut _› hF ⟨#[], []⟩ w ?_))
          all_goals exact hF.elim
theorem hgtS_E {p : List Fn} {k : Nat} (h : chkS p k = 0) : (hgtS p k).2 = hgtE p k := by
  unfold hgtS hgtE codeOf
  rw [if_pos h, Int.toNat_natCast]
  cases heightsS p (p.getD k Fn.zero).code <;> rfl
theorem progCheck_many (oa : Option Addr) (n cap : Nat) (w : World) (h : 5 < (n : Int)) :
    Calls Tryz.prog 25 #[.slice oa n cap] w fun e w' => e = .returned (.int .i64 2) ∧ Kept w w' := by
  go_enter Tryz.func25, Tryz.ntmps25
  go_wp2
  go_ret
  exact ⟨rfl, Kept.refl _⟩
theorem progCheck_none (oa : Option Addr) (cap : Nat) (w : World) :
    Calls Tryz.prog 25 #[.slice oa 0 cap] w fun e w' => e = .returned (.int .i64 5) ∧ Kept w w' := by
  go_enter Tryz.func25, Tryz.ntmps25
  go_wp2
  go_ret
  exact ⟨rfl, Kept.refl _⟩
theorem progCheck_args (b o n cap : Nat) (ar : Int) (w : World) (h : ¬ 5 < (n : Int)) (h0 : ((n : Int) == 0) = false) (hn : 0 < n) (c0 : w.cell? ⟨b, o, none⟩ = some (.int .i64 ar)) (ha : (ar != 0) = true) :
    Calls Tryz.prog 25 #[.slice (some ⟨b, o, none⟩) n cap] w fun e w' => e = .returned (.int .i64 1) ∧ Kept w w' := by
  go_enter Tryz.func25, Tryz.ntmps25
  go_wp2
  go_ret
  exact ⟨rfl, Kept.refl _⟩
theorem progCheck_go (p : List Fn) (b o n cap : Nat) (w : World) (hp : ProgAt w (.slice (some ⟨b, o, none⟩) n cap) p) (hk : KindsAt w) (hl : n = p.length) (h : ¬ 5 < (n : Int)) (h0 : ((n : Int) == 0) = false) (hn : 0 < n) (c0 : w.cell? ⟨b, o, none⟩ = some (.int .i64 0)) (rr : Int) (hrr : (if firstS (fun k => chkS p k) 0 p.length = 0 then firstS (hgtE p) 0 p.length else firstS (fun k => chkS p k) 0 p.length) = rr) :
    Calls Tryz.prog 25 #[.slice (some ⟨b, o, none⟩) n cap] w fun e w' => e = .returned (.int .i64 rr) ∧ Kept w w' := by
  have HRR := hide hrr
  clear hrr
  have HP := hide hp
  have HK := hide hk
  have HL := hide hl
  clear hp hk hl
  go_enter Tryz.func25, Tryz.ntmps25
  go_wp2
  go_loopw [21] (fun s wr => ∃ k : Nat, k ≤ n ∧ s = .int .i64 k ∧ Hid (firstS (fun k => chkS p k) k (n - k) = firstS (fun k => chkS p k) 0 p.length) ∧ Hid (Kept w wr)) (fun s _ => n - (intOf s).toNat)
  case atStart => exact ⟨0, Nat.zero_le _, rfl, by have := unhide HL; subst this; rfl, Kept.refl _⟩
  case round =>
    obtain ⟨k, hkm, rfl, HO, HKr⟩ := hrel
    by_cases hlt : k < n
    · have hst := firstS_step (e := fun k => chkS p k) hlt
      have HST := hide hst
      have hck := check_any p (.slice (some ⟨b, o, none⟩) n cap) k wr ((unhide HP).kept (unhide HKr)) ((unhide HK).kept (unhide HKr))
      have HCK := hide hck
      clear hst hck
      go_wp2_with fail
      refine (unhide HCK).mono ?_
      clear HCK
      rintro e w2 ⟨rfl, hk2⟩
      have HK2 := hide ((unhide HKr).trans hk2)
      clear hk2
      by_cases hz : chkS p k = 0
      · have hst := unhide HST
        simp only [hz, if_true] at hst
        have HS2 := hide (hst.symm.trans (unhide HO))
        rw [hz]
        clear hst hz HST HO
        go_wp2
        go_roundw
        case rel => exact ⟨k + 1, by omega, by go_num, HS2, HK2⟩
        case measure => simp [intOf]; omega
      · have hst := unhide HST
        simp only [hz, if_false] at hst
        have hs2 := hst.symm.trans (unhide HO)
        have hz' : (chkS p k != 0) = true := by rw [bne_iff_ne]; exact hz
        generalize chkS p k = r at *
        have HS2 := hide hs2
        have HZ := hide hz
        clear hst hz HST HO hs2
        go_wp2
        go_ret
        have hrr := unhide HRR
        rw [← unhide HS2, if_neg (unhide HZ)] at hrr
        exact ⟨by rw [← hrr]; rfl, unhide HK2⟩
    · have hf0 : firstS (fun k => chkS p k) 0 p.length = 0 := by
        rw [← unhide HO, show n - k = 0 by omega]
        rfl
      have HF := hide hf0
      clear hf0 HO
      go_wp2
      go_loopw [33] (fun s wq => ∃ k : Nat, k ≤ n ∧ s = .int .i64 k ∧ Hid (firstS (hgtE p) k (n - k) = firstS (hgtE p) 0 p.length) ∧ Hid (Kept w wq)) (fun s _ => n - (intOf s).toNat)
      case atStart => exact ⟨0, Nat.zero_le _, rfl, by have := unhide HL; subst this; rfl, HKr⟩
      case round =>
        obtain ⟨k, hkm, rfl, HO, HKq⟩ := hrel
        by_cases hlt : k < n
        · have hst := firstS_step (e := hgtE p) hlt
          have hz0 : chkS p k = 0 := firstS_zero (unhide HF) k (by omega) (by have := unhide HL; omega)
          have hge := hgtS_E hz0
          have HST := hide hst
          have hck := heights_any p (.slice (some ⟨b, o, none⟩) n cap) k _ ((unhide HP).kept (unhide HKq)) ((unhide HK).kept (unhide HKq))
          have HCK := hide hck
          have HGE := hide hge
          clear hst hck hge hz0
          go_wp2_with fail
          refine (unhide HCK).mono ?_
          clear HCK
          rintro e w2 ⟨v2, rfl, _, hk2⟩
          have HK2 := hide ((unhide HKq).trans hk2)
          clear hk2
          rw [unhide HGE]
          by_cases hz : hgtE p k = 0
          · have hst := unhide HST
            simp only [hz, if_true] at hst
            have HS2 := hide (hst.symm.trans (unhide HO))
            rw [hz]
            clear hst hz HST HO
            go_wp2
            go_roundw
            case rel => exact ⟨k + 1, by omega, by go_num, HS2, HK2⟩
            case measure => simp [intOf]; omega
          · have hst := unhide HST
            simp only [hz, if_false] at hst
            have hs2 := hst.symm.trans (unhide HO)
            have hz' : (hgtE p k != 0) = true := by rw [bne_iff_ne]; exact hz
            generalize hgtE p k = r at *
            have HS2 := hide hs2
            clear hst hz HST HO hs2
            go_wp2
            go_ret
            have hrr := unhide HRR
            rw [if_pos (unhide HF), ← unhide HS2] at hrr
            exact ⟨by rw [← hrr]; rfl, unhide HK2⟩
        · have hf1 : firstS (hgtE p) 0 p.length = 0 := by
            rw [← unhide HO, show n - k = 0 by omega]
            rfl
          have HF1 := hide hf1
          clear hf1 HO
          go_wp2
          go_ret
          have hrr := unhide HRR
          rw [if_pos (unhide HF), unhide HF1] at hrr
          exact ⟨by rw [← hrr]; rfl, unhide HKq⟩
theorem progCheck_any (p : List Fn) (v : Value) (w : World) (hp : ProgAt w v p) (hk : KindsAt w) :
    Calls Tryz.prog 25 #[v] w fun e w' => e = .returned (.int .i64 (progS p)) ∧ Kept w w' := by
  obtain ⟨oa, cap, rfl, hl, hi⟩ := id hp
  unfold progS
  by_cases h5 : 5 < p.length
  · rw [if_pos h5]
    exact progCheck_many oa p.length cap w (by omega)
  · rw [if_neg h5]
    by_cases h0 : p.length = 0
    · rw [if_pos h0, h0]
      exact progCheck_none oa cap w
    · rw [if_neg h0]
      have h0' : ((p.length : Int) == 0) = false := by rw [beq_eq_false_iff_ne]; omega
      obtain ⟨b, o, cv, rfl, c0, c1, c2, hc⟩ := hi 0 _ (getD_of_lt p 0 Fn.zero (by omega))
      simp only [Nat.zero_mul, Nat.add_zero] at c0
      by_cases ha : (p.getD 0 Fn.zero).args = 0
      · rw [if_neg (not_not_intro ha)]
        rw [ha] at c0
        exact progCheck_go p b o p.length cap w hp hk rfl (by omega) h0' (by omega) c0 _ rfl
      · rw [if_pos ha]
        exact progCheck_args b o p.length cap _ w (by omega) h0' (by omega) c0 (by rw [bne_iff_ne]; exact ha)
theorem progCheck_is (p : List Fn) (v : Value) (r : Int) (w : World) (hp : ProgAt w v p) (hk : KindsAt w) (h : progS p = r) :
    Calls Tryz.prog 25 #[v] w fun e w' => e = .returned (.int .i64 r) ∧ Kept w w' := by
  have := progCheck_any p v w hp hk
  rw [h] at this
  exact this
theorem asErr (v : Value) (w : World) : (Instr.typeAssert (.iface 22 v) 20 22 false).run Tryz.prog w = .ok v w := by kernel_rfl
theorem catch_panicking (g : Nat) (x e : Int) (older : List PanicEntry) (w : World) (hc : w.heap[g]? = some (.cells #[.int .i64 x] 22)) :
    CallsD Tryz.prog 122 #[.pointer (some ⟨g, 0, none⟩)] (.panicking ({ v := .iface 22 (.int .i64 e), recovered := false } :: older)) w fun en u' w' =>
      en = .returned (.tuple #[]) ∧ u' = .panicking ({ v := .iface 22 (.int .i64 e), recovered := true } :: older) ∧ w' = w.setCell ⟨g, 0, none⟩ (.int .i64 e) := by
  have c0 : w.cell? ⟨g, 0, none⟩ = some (.int .i64 x) := cell_at hc rfl
  have z0 := frozen_lays hc 0
  refine callsD_of_wpS Tryz.func122 rfl fun c₀ cs hu => ?_
  apply wpS_seq
  apply wpS_region
  simp [wpOpsS, go_sem, recoverD, hu, Tryz.ntmps122, Exit.thenS]
  have ht : (#[Value.pointer (some ⟨g, 0, none⟩)] ++ ((Array.replicate 6 undef).setIfInBounds 1 (Value.iface 22 (.int .i64 e))).setIfInBounds 0 (Value.iface 22 (.int .i64 e))) = #[Value.pointer (some ⟨g, 0, none⟩), Value.iface 22 (.int .i64 e), Value.iface 22 (.int .i64 e), undef, undef, undef, undef] := rfl
  rw [ht]
  apply wpS_seq
  apply wpS_region
  simp [wpOpsS, go_sem, Exit.thenS]
  refine wpS_cond (t := true) (by simp [Act.eval]) ?_
  simp only [if_true]
  apply wpS_region
  simp [wpOpsS, go_sem, asErr, c0, z0, bodyPostS, results, Tryz.results122]
theorem catch_idle (g : Nat) (w : World) :
    CallsD Tryz.prog 122 #[.pointer (some ⟨g, 0, none⟩)] .returning w fun e u' w' => e = .returned (.tuple #[]) ∧ u' = .returning ∧ w' = w := by
  refine callsD_of_wpS Tryz.func122 rfl fun c₀ cs hu => ?_
  apply wpS_seq
  apply wpS_region
  simp [wpOpsS, go_sem, recoverD, hu, Tryz.ntmps122, Exit.thenS]
  have ht : (#[Value.pointer (some ⟨g, 0, none⟩)] ++ ((Array.replicate 6 undef).setIfInBounds 1 Value.nilIface).setIfInBounds 0 Value.nilIface) = #[Value.pointer (some ⟨g, 0, none⟩), Value.nilIface, Value.nilIface, undef, undef, undef, undef] := rfl
  rw [ht]
  apply wpS_seq
  apply wpS_region
  simp [wpOpsS, go_sem, Exit.thenS]
  refine wpS_cond (t := false) (by simp [Act.eval]) ?_
  simp only [Bool.false_eq_true, if_false]
  refine wpS_of_wp (wp_skip ?_)
  cases c₀
  simp_all [bodyPostS, results, Tryz.results122]
end Go.Proofs.YtokhibfenccijaaGreatDoor
