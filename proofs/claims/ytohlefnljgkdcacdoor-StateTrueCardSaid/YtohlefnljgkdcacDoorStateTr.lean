/-
  The walk of the statement StateTrue.
-/
import Derived.Test.YtohlefnljgkdcacDoorSR02
import Derived.Test.YtohlefnljgkdcacDoorSR03
import Derived.Test.YtohlefnljgkdcacDoorSR12
namespace Go.Proofs.YtohlefnljgkdcacDoor
open Go.RowKit

set_option maxRecDepth 100000 in
set_option maxHeartbeats 4000000 in
theorem stateTrue_err (p : List Fn) (s : St) (n : Int) (vp v : Value) (w : World) (hp : ProgAt w vp p) (hs : StAt w v s) (hk : KindsAt w)
    (HB : Hid (∀ u, KindsAt u → Calls Tryd.prog 7 #[] u fun e w' => e = .returned (.bool true) ∧ Kept u w'))
    (HCK : Hid (∀ u, ProgAt u vp p → StAt u v s → KindsAt u → Calls Tryd.prog 6 #[vp, v] u fun e w' => e = .returned (.int .i64 (stErrS p s)) ∧ Kept u w')) (hz : stErrS p s ≠ 0) :
    Calls Tryd.prog 3 #[vp, v, .int .i64 n] w fun e w' => e = .returned (.bool true) ∧ Kept w w' := by
  have hzb : (stErrS p s != 0) = true := by rw [bne_iff_ne]; exact hz
  obtain ⟨oa, cp, rfl, hpl, hPC⟩ := id hp
  have HP := hide hp
  have HK := hide hk
  have HS := hide hs
  obtain ⟨vf, vo, rfl, hF, hO⟩ := hs
  obtain ⟨pFA, qFA, rfl, hfl, hFC⟩ := hF
  obtain ⟨pOA, qOA, rfl, _, _⟩ := hO
  clear hp hk hz hPC hFC
  go_enter Tryd.func3, Tryd.ntmps3
  go_wp2_with fail
  have ha1 : Kept w (w.alloc (.cells #[.slice pFA s.fibers.length qFA, .int .i64 s.now, .slice pOA s.out.length qOA] 26)) := (Kept.refl w).alloc _
  refine ((unhide HCK) _ ((unhide HP).kept ha1) ((unhide HS).kept ha1) ((unhide HK).kept ha1)).mono ?_
  rintro _ w2 ⟨rfl, hk2⟩
  have H2 := hide (ha1.trans hk2)
  generalize stErrS p s = r at hzb ⊢
  clear hk2 ha1
  go_wp2_with fail
  refine ((unhide HB) _ ((unhide HK).kept (unhide H2))).mono ?_
  rintro _ w3 ⟨rfl, hk3⟩
  have H3 := hide ((unhide H2).trans hk3)
  clear hk3
  go_wp2
  go_ret
  exact ⟨rfl, unhide H3⟩

set_option maxRecDepth 100000 in
set_option maxHeartbeats 4000000 in
theorem stateTrue_go (p : List Fn) (s : St) (n : Int) (vp v : Value) (w : World) (hp : ProgAt w vp p) (hs : StAt w v s) (hk : KindsAt w)
    (HB : Hid (∀ u, KindsAt u → Calls Tryd.prog 7 #[] u fun e w' => e = .returned (.bool true) ∧ Kept u w'))
    (HCK : Hid (∀ u, ProgAt u vp p → StAt u v s → KindsAt u → Calls Tryd.prog 6 #[vp, v] u fun e w' => e = .returned (.int .i64 (stErrS p s)) ∧ Kept u w')) (hn : (Lit.int .i64 n).wf = true) (hz : stErrS p s = 0) (h0 : 0 < s.fibers.length) :
    Calls Tryd.prog 3 #[vp, v, .int .i64 n] w fun e w' => e = .returned (.bool true) ∧ Kept w w' := by
  obtain ⟨oa, cp, rfl, hpl, hPC⟩ := id hp
  have HP := hide hp
  have HK := hide hk
  have HS := hide hs
  obtain ⟨vf, vo, rfl, hF, hO⟩ := hs
  obtain ⟨pFA, qFA, rfl, hfl, hFC⟩ := hF
  obtain ⟨pOA, qOA, rfl, _, _⟩ := hO
  have hkm := chooseS_lt n h0
  have HCH := hide (fun u => choose_any n s.fibers.length u hn h0 hfl)
  generalize chooseS n s.fibers.length = k at hkm HCH
  obtain ⟨bF, oF, vR, e1, kF, _, pR, cR, e2, ⟨hR1, _⟩, hFR⟩ := hFC k _ (getD_of_lt s.fibers k Fb.zero hkm)
  subst e1 e2
  have hfr : s.fibers.getD k Fb.zero = fibAt s k := rfl
  rw [hfr] at kF hFR hR1
  have HPC := hide hPC
  have HFR := hide hFR
  have HZ := hide hz
  have HKM := hide hkm
  clear hp hk hPC hFR hFC hn hfr
  go_enter Tryd.func3, Tryd.ntmps3
  go_wp2_with fail
  have ha1 : Kept w (w.alloc (.cells #[.slice (some ⟨bF, oF, none⟩) s.fibers.length qFA, .int .i64 s.now, .slice pOA s.out.length qOA] 26)) := (Kept.refl w).alloc _
  refine ((unhide HCK) _ ((unhide HP).kept ha1) ((unhide HS).kept ha1) ((unhide HK).kept ha1)).mono ?_
  rintro _ w2 ⟨rfl, hk2⟩
  have H2 := hide (ha1.trans hk2)
  have m0 : w2.cell? ⟨w.heap.size, 0, none⟩ = some (.slice (some ⟨bF, oF, none⟩) s.fibers.length qFA) := hk2.cell (by simp)
  have m1 : w2.cell? ⟨w.heap.size, 1, none⟩ = some (.int .i64 s.now) := hk2.cell (by simp)
  have kF2 := (unhide H2).cell kF
  rw [hz]
  clear hk2 ha1 kF hz
  generalize w.heap.size = A at m0 m1 ⊢
  generalize hM : s.fibers.length = m at *
  have HM := hide hM
  have h0b : ((m : Int) == 0) = false := beq_eq_false_iff_ne.2 (by omega)
  generalize hQ : (fibAt s k).frames.length = q at *
  have HQ := hide hQ
  clear hM hQ
  go_wp2_with fail
  refine ((unhide HCH) _).mono ?_
  rintro _ _ ⟨rfl, rfl⟩
  clear h0b
  go_wp2_with fail
  go_loopw [9] (fun s9 wr => ∃ i : Nat, i ≤ q ∧ s9 = .int .i64 i ∧ Hid (Kept w2 wr)) (fun s9 _ => q - (intOf s9).toNat)
  case atStart => exact ⟨0, Nat.zero_le _, rfl, Kept.refl _⟩
  case round =>
    obtain ⟨i, hiq, rfl, HKr⟩ := hrel
    have HW := hide ((unhide H2).trans (unhide HKr))
    by_cases hlt : i < q
    · obtain ⟨bR, oR, vl, vs, e1, k0, k1, k2, k3, ⟨oL, cL, rfl, _, _⟩, ⟨oS, cS, rfl, _, _⟩⟩ := (unhide HFR) i _ (getD_of_lt (fibAt s k).frames i Fr.zero (by rw [unhide HQ]; exact hlt))
      obtain ⟨hfB, h8⟩ := right_frame (unhide HZ) (k := k) (j := i) (by rw [unhide HM]; exact hkm) (by rw [unhide HQ]; exact hlt)
      obtain ⟨⟨q1, q2⟩, q3, ⟨q4, q5⟩, _⟩ := frame_parts hfB
      have hx : frAt s k i = (fibAt s k).frames.getD i Fr.zero := rfl
      rw [hx] at q1 q2 q3 q4 q5 h8
      clear hx hfB
      generalize (fibAt s k).frames.getD i Fr.zero = x at *
      obtain ⟨a, ha⟩ := Int.eq_ofNat_of_zero_le q1
      obtain ⟨t, ht⟩ := Int.eq_ofNat_of_zero_le q4
      rw [ha] at q2 q3 q5 k0
      rw [ht] at q5 k1
      rw [Int.toNat_natCast] at q3 q5
      obtain ⟨b, o, cv, e2, g0, g1, g2, ⟨oC, cC, rfl, _, _⟩⟩ := (unhide HPC) a _ (getD_of_lt p a Fn.zero (by omega))
      subst e1 e2
      rw [← q3] at g1
      have hcl : (codeOf p a).length = (p.getD a Fn.zero).code.length := rfl
      rw [hcl] at q5
      clear q3 ha ht q1 q4 hcl
      have r0 := (unhide HW).cell k0
      have r1 := (unhide HW).cell k1
      have r2 := (unhide HW).cell k2
      have r3 := (unhide HW).cell k3
      have r4 := (unhide HW).cell g1
      have r5 := (unhide HW).cell g2
      clear k0 k1 k2 k3 g0 g1 g2 m0 m1 kF2
      generalize x.locals.length = ll at *
      generalize x.stack.length = sl at *
      generalize (p.getD a Fn.zero).code.length = cl at *
      have d1 : decide ((a : Int) < 0) = false := by simp
      have d2 : decide ((p.length : Int) ≤ (a : Int)) = false := by simpa using q2
      have d3 : decide ((t : Int) < 0) = false := by simp
      have d4 : decide ((cl : Int) ≤ (t : Int)) = false := by simpa using q5
      have d5 : decide ((8 : Int) < (sl : Int)) = false := by simp; omega
      have d6 : ((ll : Int) != (ll : Int)) = false := by simp
      have e2 : decide (p.length ≤ a) = false := decide_eq_false (by omega)
      have e4 : decide (cl ≤ t) = false := decide_eq_false (by omega)
      have e5 : decide (8 < sl) = false := decide_eq_false (by omega)
      go_wp2
      go_quiet (fail)
      go_wp2
      go_roundw
      case rel => exact ⟨i + 1, by omega, by go_num, hide ((unhide HKr).drewN _)⟩
      case measure => simp [intOf]; omega
    · obtain rfl : i = q := by omega
      have n1 := (unhide HKr).cell m1
      clear m0 m1 kF2
      by_cases hnow : (k : Int) = s.now
      · have hkm2 : k < s.fibers.length := by rw [unhide HM]; exact hkm
        obtain ⟨hq0, kd, arg, hcode, he0, hle⟩ := right_top (unhide HZ) hkm2 hnow
        rw [unhide HQ] at hq0 hcode hle
        obtain ⟨t, rfl⟩ : ∃ t, i = t + 1 := ⟨i - 1, by omega⟩
        have htt : t + 1 - 1 = t := rfl
        rw [htt] at hcode hle
        obtain ⟨bR, oR, vl, vs, e1, k0, k1, k2, k3, ⟨oL, cL, rfl, _, _⟩, ⟨oS, cS, rfl, _, _⟩⟩ := (unhide HFR) t _ (getD_of_lt (fibAt s k).frames t Fr.zero (by rw [unhide HQ]; omega))
        obtain ⟨hfB, _⟩ := right_frame (unhide HZ) (k := k) (j := t) hkm2 (by rw [unhide HQ]; omega)
        obtain ⟨⟨q1, q2⟩, _, ⟨q4, q5⟩, _⟩ := frame_parts hfB
        have hx : frAt s k t = (fibAt s k).frames.getD t Fr.zero := rfl
        rw [hx] at q1 q2 q4 q5 hcode hle
        clear hx hfB
        generalize (fibAt s k).frames.getD t Fr.zero = x at *
        obtain ⟨a, ha⟩ := Int.eq_ofNat_of_zero_le q1
        obtain ⟨z, hz⟩ := Int.eq_ofNat_of_zero_le q4
        rw [ha] at q2 q5 k0 hcode
        rw [hz] at q5 k1 hcode
        rw [Int.toNat_natCast] at q5 hcode
        rw [Int.toNat_natCast] at hcode
        obtain ⟨b, o, cv, e2, _, _, g2, ⟨oC, cC, rfl, _, hcc⟩⟩ := (unhide HPC) a _ (getD_of_lt p a Fn.zero (by omega))
        have hcl : codeOf p a = (p.getD a Fn.zero).code := rfl
        rw [← hcl] at hcc g2
        obtain ⟨bC, oC', e3, h0, h1⟩ := hcc z _ (getD_of_lt (codeOf p a) z (0, 0) (by omega))
        subst e1 e2 e3
        rw [hcode] at h0 h1
        have r0 := (unhide HW).cell k0
        have r1 := (unhide HW).cell k1
        have r2 := (unhide HW).cell k2
        have r3 := (unhide HW).cell k3
        have s2 := (unhide HW).cell g2
        have s3 := (unhide HW).cell h0
        have s4 := (unhide HW).cell h1
        clear k0 k1 k2 k3 g2 h0 h1 ha hz q1 q4 hcode hcl hcc htt
        have hnb : ((k : Int) != s.now) = false := by rw [bne_eq_false_iff_eq]; exact hnow
        have HEF0 := hide (fun u hu => effect_any p (.slice (some ⟨b, o, none⟩) p.length cp) kd arg u ((unhide HP).kept hu) ((unhide HK).kept hu))
        rw [he0] at HEF0
        have HLE := hide hle
        clear he0 hle hnow
        generalize (effS p kd arg).1 = ta at *
        generalize (effS p kd arg).2.1 = tb at *
        generalize x.locals.length = ll at *
        generalize x.stack.length = sl at *
        generalize (codeOf p a).length = cl at *
        generalize s.now = c at *
        have hb0 : (((t + 1 : Nat) : Int) == 0) = false := beq_eq_false_iff_ne.2 (by omega)
        have hb1 : ((t : Int) + 1 == 0) = false := beq_eq_false_iff_ne.2 (by omega)
        have hw1 : IntKind.i64.wrap (((t + 1 : Nat) : Int) - 1) = (t : Int) := by rw [IntKind.wrap_i64]; omega
        have hw2 : IntKind.i64.wrap ((t : Int) + 1 - 1) = (t : Int) := by rw [IntKind.wrap_i64]; omega
        have ht1 : (t : Int) + 1 - 1 = (t : Int) := by omega
        have ht2 : (t : Int) < (t : Int) + 1 := by omega
        go_upto_region 15 with fail
        generalize hw5 : wr.alloc (.cells #[.int .i64 a, .int .i64 z, .slice oL ll cL, .slice oS sl cS] 35) = w5
        have L5 : w5.heap[wr.heap.size]? = some (.cells #[.int .i64 a, .int .i64 z, .slice oL ll cL, .slice oS sl cS] 35) := by rw [← hw5]; exact lays_new rfl
        have hk5 : Kept wr w5 := by rw [← hw5]; exact (Kept.refl wr).alloc _
        generalize wr.heap.size = B at L5 ⊢
        have p0 := cell_lays L5 0
        have p1 := cell_lays L5 1
        have p3 := cell_lays L5 3
        have p2 := hk5.cell s2
        have p4 : w5.cell? ⟨bC, oC' + z * 2, none⟩ = some (.int .i64 kd) := hk5.cell s3
        have p5 : w5.cell? ⟨bC, oC' + z * 2 + 1, none⟩ = some (.int .i64 arg) := hk5.cell s4
        have HYS : Hid (∀ u, Kept w5 u → u.cell? ⟨B, 0, none⟩ = some (.int .i64 a) ∧ u.cell? ⟨B, 1, none⟩ = some (.int .i64 z) ∧ u.cell? ⟨B, 3, none⟩ = some (.slice oS sl cS) ∧ u.cell? ⟨b, o + a * 3 + 2, none⟩ = some (.slice (some ⟨bC, oC', none⟩) cl cC) ∧ u.cell? ⟨bC, oC' + z * 2, none⟩ = some (.int .i64 kd) ∧ u.cell? ⟨bC, oC' + z * 2 + 1, none⟩ = some (.int .i64 arg)) := hide (fun u hu => ⟨hu.cell p0, hu.cell p1, hu.cell p3, hu.cell p2, hu.cell p4, hu.cell p5⟩)
        have H5 := hide ((unhide HW).trans hk5)
        have HEF := hide ((unhide HEF0) _ ((unhide H5).trans (Kept.drew (Kept.refl _))))
        have hza : (0 : Int) ≤ (a : Int) := by omega
        have hzz : (0 : Int) ≤ (z : Int) := by omega
        clear hw5 hk5 L5 p0 p1 p2 p3 p4 p5 r0 r1 r2 r3 s2 s3 s4 HEF0 hb0 hb1 hw1 hw2 ht1 ht2 n1
        refine wp_region_held_drew (S := (fun u => u.cell? ⟨B, 0, none⟩ = some (.int .i64 a) ∧ u.cell? ⟨B, 1, none⟩ = some (.int .i64 z) ∧ u.cell? ⟨B, 3, none⟩ = some (.slice oS sl cS) ∧ u.cell? ⟨b, o + a * 3 + 2, none⟩ = some (.slice (some ⟨bC, oC', none⟩) cl cC) ∧ u.cell? ⟨bC, oC' + z * 2, none⟩ = some (.int .i64 kd) ∧ u.cell? ⟨bC, oC' + z * 2 + 1, none⟩ = some (.int .i64 arg))) (by kernel_rfl) ((unhide HYS) _ (Kept.drew (Kept.refl _))) (fun hHeld => ?_)
        try simp only [Act.put, List.setIfInBounds_toArray, List.set_cons_zero, List.set_cons_succ]
        refine take_yes (i := 0) (v := ?_) rfl (by kernel_rfl) (by kernel_rfl) (by kernel_rfl) (fun _ _ _ h => h) (by rfl) (fun u hSu => ?_) hHeld ?_
        rotate_left
        · ((try dsimp only at hSu); go_simp) <;> with_reducible rfl
        try simp only [Act.put, List.setIfInBounds_toArray, List.set_cons_zero, List.set_cons_succ]
        refine take_yes (i := 1) (v := ?_) rfl (by kernel_rfl) (by kernel_rfl) (by kernel_rfl) (fun _ _ _ h => h) (by rfl) (fun u hSu => ?_) hHeld ?_
        rotate_left
        · ((try dsimp only at hSu); go_simp) <;> with_reducible rfl
        try simp only [Act.put, List.setIfInBounds_toArray, List.set_cons_zero, List.set_cons_succ]
        refine take_yes (i := 2) (v := ?_) rfl (by kernel_rfl) (by kernel_rfl) (by kernel_rfl) (fun _ _ _ h => h) (by rfl) (fun u hSu => ?_) hHeld ?_
        rotate_left
        · ((try dsimp only at hSu); go_simp) <;> with_reducible rfl
        try simp only [Act.put, List.setIfInBounds_toArray, List.set_cons_zero, List.set_cons_succ]
        refine take_yes (i := 3) (v := ?_) rfl (by kernel_rfl) (by kernel_rfl) (by kernel_rfl) (fun _ _ _ h => h) (by rfl) (fun u hSu => ?_) hHeld ?_
        rotate_left
        · ((try dsimp only at hSu); go_simp) <;> with_reducible rfl
        try simp only [Act.put, List.setIfInBounds_toArray, List.set_cons_zero, List.set_cons_succ]
        refine take_yes (i := 4) (v := ?_) rfl (by kernel_rfl) (by kernel_rfl) (by kernel_rfl) (fun _ _ _ h => h) (by rfl) (fun u hSu => ?_) hHeld ?_
        rotate_left
        · ((try dsimp only at hSu); go_simp) <;> with_reducible rfl
        try simp only [Act.put, List.setIfInBounds_toArray, List.set_cons_zero, List.set_cons_succ]
        refine take_yes (i := 5) (v := ?_) rfl (by kernel_rfl) (by kernel_rfl) (by kernel_rfl) (fun _ _ _ h => h) (by rfl) (fun u hSu => ?_) hHeld ?_
        rotate_left
        · ((try dsimp only at hSu); go_simp) <;> with_reducible rfl
        try simp only [Act.put, List.setIfInBounds_toArray, List.set_cons_zero, List.set_cons_succ]
        refine take_yes (i := 6) (v := ?_) rfl (by kernel_rfl) (by kernel_rfl) (by kernel_rfl) (fun _ _ _ h => h) (by rfl) (fun u hSu => ?_) hHeld ?_
        rotate_left
        · ((try dsimp only at hSu); go_simp) <;> with_reducible rfl
        try simp only [Act.put, List.setIfInBounds_toArray, List.set_cons_zero, List.set_cons_succ]
        refine take_yes (i := 7) (v := ?_) rfl (by kernel_rfl) (by kernel_rfl) (by kernel_rfl) (fun _ _ _ h => h) (by rfl) (fun u hSu => ?_) hHeld ?_
        rotate_left
        · ((try dsimp only at hSu); go_simp) <;> with_reducible rfl
        try simp only [Act.put, List.setIfInBounds_toArray, List.set_cons_zero, List.set_cons_succ]
        refine take_yes (i := 8) (v := ?_) rfl (by kernel_rfl) (by kernel_rfl) (by kernel_rfl) (fun _ _ _ h => h) (by rfl) (fun u hSu => ?_) hHeld ?_
        rotate_left
        · ((try dsimp only at hSu); go_simp) <;> with_reducible rfl
        try simp only [Act.put, List.setIfInBounds_toArray, List.set_cons_zero, List.set_cons_succ]
        refine take_yes (i := 9) (v := ?_) rfl (by kernel_rfl) (by kernel_rfl) (by kernel_rfl) (fun _ _ _ h => h) (by rfl) (fun u hSu => ?_) hHeld ?_
        rotate_left
        · ((try dsimp only at hSu); go_simp) <;> with_reducible rfl
        try simp only [Act.put, List.setIfInBounds_toArray, List.set_cons_zero, List.set_cons_succ]
        refine take_yes (i := 10) (v := ?_) rfl (by kernel_rfl) (by kernel_rfl) (by kernel_rfl) (fun _ _ _ h => h) (by rfl) (fun u hSu => ?_) hHeld ?_
        rotate_left
        · ((try dsimp only at hSu); go_simp) <;> with_reducible rfl
        try simp only [Act.put, List.setIfInBounds_toArray, List.set_cons_zero, List.set_cons_succ]
        refine take_one (i := 11) rfl (by kernel_rfl) (fun K hK => ?_)
        go_simp
        refine (unhide HEF).mono ?_
        rintro _ n1 ⟨rfl, hq1⟩
        have j1 : Kept w5 n1 := Kept.trans (Kept.drew (Kept.refl w5)) hq1
        refine hK.out _ _ ((unhide HYS) _ j1) (fun hHeld => ?_)
        clear hK K
        try simp only [Act.put, List.setIfInBounds_toArray, List.set_cons_zero, List.set_cons_succ]
        refine take_yes (i := 12) (v := ?_) rfl (by kernel_rfl) (by kernel_rfl) (by kernel_rfl) (fun _ _ _ h => h) (by rfl) (fun u hSu => ?_) hHeld ?_
        rotate_left
        · ((try dsimp only at hSu); go_simp) <;> with_reducible rfl
        try simp only [Act.put, List.setIfInBounds_toArray, List.set_cons_zero, List.set_cons_succ]
        refine take_yes (i := 13) (v := ?_) rfl (by kernel_rfl) (by kernel_rfl) (by kernel_rfl) (fun _ _ _ h => h) (by rfl) (fun u hSu => ?_) hHeld ?_
        rotate_left
        · ((try dsimp only at hSu); go_simp) <;> with_reducible rfl
        try simp only [Act.put, List.setIfInBounds_toArray, List.set_cons_zero, List.set_cons_succ]
        refine take_yes (i := 14) (v := ?_) rfl (by kernel_rfl) (by kernel_rfl) (by kernel_rfl) (fun _ _ _ h => h) (by rfl) (fun u hSu => ?_) hHeld ?_
        rotate_left
        · ((try dsimp only at hSu); go_simp) <;> with_reducible rfl
        try simp only [Act.put, List.setIfInBounds_toArray, List.set_cons_zero, List.set_cons_succ]
        refine take_yes (i := 15) (v := ?_) rfl (by kernel_rfl) (by kernel_rfl) (by kernel_rfl) (fun _ _ _ h => h) (by rfl) (fun u hSu => ?_) hHeld ?_
        rotate_left
        · ((try dsimp only at hSu); go_simp) <;> with_reducible rfl
        try simp only [Act.put, List.setIfInBounds_toArray, List.set_cons_zero, List.set_cons_succ]
        refine take_yes (i := 16) (v := ?_) rfl (by kernel_rfl) (by kernel_rfl) (by kernel_rfl) (fun _ _ _ h => h) (by rfl) (fun u hSu => ?_) hHeld ?_
        rotate_left
        · ((try dsimp only at hSu); go_simp) <;> with_reducible rfl
        try simp only [Act.put, List.setIfInBounds_toArray, List.set_cons_zero, List.set_cons_succ]
        refine take_yes (i := 17) (v := ?_) rfl (by kernel_rfl) (by kernel_rfl) (by kernel_rfl) (fun _ _ _ h => h) (by rfl) (fun u hSu => ?_) hHeld ?_
        rotate_left
        · ((try dsimp only at hSu); go_simp) <;> with_reducible rfl
        try simp only [Act.put, List.setIfInBounds_toArray, List.set_cons_zero, List.set_cons_succ]
        refine take_yes (i := 18) (v := ?_) rfl (by kernel_rfl) (by kernel_rfl) (by kernel_rfl) (fun _ _ _ h => h) (by rfl) (fun u hSu => ?_) hHeld ?_
        rotate_left
        · ((try dsimp only at hSu); go_simp) <;> with_reducible rfl
        try simp only [Act.put, List.setIfInBounds_toArray, List.set_cons_zero, List.set_cons_succ]
        refine wpAnyH_done (by kernel_rfl) ?_ _
        have H6 := hide ((unhide H5).trans j1)
        have x3 := ((unhide HYS) _ j1).2.2.1
        have hle := unhide HLE
        have hlb : decide (ta ≤ (sl : Int)) = true := decide_eq_true hle
        clear hHeld hle j1 hq1 HYS
        go_wp2_with fail
        refine ((unhide HB) _ ((unhide HK).kept (unhide H6))).mono ?_
        rintro _ w7 ⟨rfl, hk7⟩
        have H7 := hide ((unhide H6).trans hk7)
        have x7 := hk7.cell x3
        clear hk7 x3
        go_wp2
        go_ret
        exact ⟨by simp, unhide H7⟩
      · have hnb : ((k : Int) != s.now) = true := by rw [bne_iff_ne]; exact hnow
        generalize s.now = c at hnb n1
        clear hnow
        go_wp2_with fail
        refine ((unhide HB) _ ((unhide HK).kept (unhide HW))).mono ?_
        rintro _ w3 ⟨rfl, hk3⟩
        have H3 := hide ((unhide HW).trans hk3)
        clear hk3
        go_wp2
        go_ret
        exact ⟨rfl, unhide H3⟩
end Go.Proofs.YtohlefnljgkdcacDoor
