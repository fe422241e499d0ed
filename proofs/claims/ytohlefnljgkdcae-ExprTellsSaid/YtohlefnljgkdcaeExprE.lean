/-
  The contracts of the program's truth, ofTwo, value and Value.
-/
import Derived.Test.YtohlefnljgkdcaeExprD
namespace Go.Proofs.Ytohlefnljgkdcae
open Go.RowKit Go.Maps

theorem exTruth_any (b : Bool) (w : World) : Calls Try.prog 18 #[.bool b] w fun e w' => e = .returned (.int .i64 (if b = true then 1 else 0)) ∧ w = w' := by
  cases b
  · go_enter Try.func18, Try.ntmps18
    go_wp2
    go_ret
    exact ⟨rfl, rfl⟩
  · go_enter Try.func18, Try.ntmps18
    go_wp2
    go_ret
    exact ⟨rfl, rfl⟩

set_option maxHeartbeats 1000000 in
theorem ofTwo_any (k a b : Int) (w : World) (h2 : 2 ≤ k) (h6 : k ≤ 6) : Calls Try.prog 16 #[.int .i64 k, .int .i64 a, .int .i64 b] w fun e w' => e = .returned (.int .i64 (twoS k a b)) ∧ w = w' := by
  generalize hv : twoS k a b = q
  have HV := hide hv
  clear hv
  by_cases k2 : k = 2
  · subst k2
    go_enter Try.func16, Try.ntmps16
    go_wp2
    go_ret
    exact ⟨by rw [← unhide HV]; simp [twoS], rfl⟩
  · by_cases k3 : k = 3
    · subst k3
      go_enter Try.func16, Try.ntmps16
      go_wp2
      go_ret
      exact ⟨by rw [← unhide HV]; simp [twoS], rfl⟩
    · by_cases k4 : k = 4
      · subst k4
        go_enter Try.func16, Try.ntmps16
        go_wp2
        go_ret
        exact ⟨by rw [← unhide HV]; simp [twoS], rfl⟩
      · by_cases k5 : k = 5
        · subst k5
          go_enter Try.func16, Try.ntmps16
          go_wp2_with fail
          refine (exTruth_any _ _).mono ?_
          rintro _ _ ⟨rfl, rfl⟩
          generalize hT : (if decide (a < b) = true then (1 : Int) else 0) = tt
          have HT := hide hT
          clear hT
          go_wp2
          go_ret
          exact ⟨by rw [← unhide HV, ← unhide HT]; simp [twoS], rfl⟩
        · obtain rfl : k = 6 := by omega
          go_enter Try.func16, Try.ntmps16
          go_wp2_with fail
          refine (exTruth_any _ _).mono ?_
          rintro _ _ ⟨rfl, rfl⟩
          generalize hT : (if decide (a = b) = true then (1 : Int) else 0) = tt
          have HT := hide hT
          clear hT
          go_wp2
          go_ret
          exact ⟨by rw [← unhide HV, ← unhide HT]; simp [twoS], rfl⟩

/-- What value leaves: the number, and what is behind, in block B. -/
def ValPost (vals : List Int) (W0 : World) (vv : Value) (B n : Nat) (e : List (Int × Int)) (w : World) (x : Ending) (w' : World) : Prop :=
  ∃ v', x = .returned (.int .i64 (valS vals n e).1) ∧ NodesAt W0 v' (valS vals n e).2 ∧ w'.heap[B]? = some (.cells #[v', vv] 31) ∧ KeptX B w w'

set_option maxRecDepth 100000 in
set_option maxHeartbeats 4000000 in
theorem value_any (vals : List Int) (W0 : World) (vv : Value) (B : Nat) (hvv : IntsW W0 vv vals) (hB0 : W0.heap.size ≤ B) : ∀ (n : Nat) (e : List (Int × Int)) (o : Int) (v : Value) (w : World), e.length ≤ n → 1 ≤ o → onlyS e o = true → (∀ x ∈ e, kindOk x) → (∀ x ∈ e, numOk vals.length x) → NodesAt W0 v e →
    Kept W0 w → w.heap[B]? = some (.cells #[v, vv] 31) → Calls Try.prog 9 #[.pointer (some ⟨B, 0, none⟩)] w (ValPost vals W0 vv B n e w)
  | n, [], o, v, w, _, ho, h, _, _, _, _, _ => by simp [onlyS] at h; omega
  | 0, x :: r, o, v, w, hl, _, _, _, _, _, _, _ => by simp at hl
  | n + 1, (k, z) :: r, o, v, w, hl, ho, h, hk, hn, hv, hkw, hB => by
    have hx := hk (k, z) (by simp)
    have hy := hn (k, z) (by simp)
    obtain ⟨b, o1, cap, rfl, hcap, hrl, c0, c1, hrest⟩ := hv.first
    unfold kindOk at hx
    unfold numOk mostS at hy
    have hl9 : r.length ≤ n := by simpa using hl
    obtain ⟨ob, cb, rfl, hlv, _⟩ := id hvv
    obtain ⟨oa, hoa, hsl⟩ := cut_first b o1 r.length cap hcap
    have hBlt : B < w.heap.size := (Array.getElem?_eq_some_iff.1 hB).1
    have HNR : Hid (NodesAt W0 (.slice oa r.length (cap - 1)) r) := hide (hrest (cap - 1) oa (by omega) (fun hne => hoa (by simpa using hne)))
    have HH := hide (show onlyS r (o - 1 + partsS k) = true by simp only [onlyS] at h; rwa [if_neg (by omega)] at h)
    have HK := hide (show ∀ y ∈ r, kindOk y from fun y hy => hk y (by simp [hy]))
    have HN := hide (show ∀ y ∈ r, numOk vals.length y from fun y hy => hn y (by simp [hy]))
    have q0 := hkw.cell c0
    have q1 := hkw.cell c1
    have p0 : w.cell? ⟨B, 0, none⟩ = some (.slice (some ⟨b, o1, none⟩) (r.length + 1) cap) := cell_lays hB 0
    have hA := lays_alloc hB (.cells #[.int .i64 k, .int .i64 z] 37)
    have p1 : (w.alloc (.cells #[.int .i64 k, .int .i64 z] 37)).cell? ⟨B, 0, none⟩ = some (.slice (some ⟨b, o1, none⟩) (r.length + 1) cap) := cell_lays hA 0
    have f1 : (w.alloc (.cells #[.int .i64 k, .int .i64 z] 37)).frozen? ⟨B, 0, none⟩ = false := frozen_lays hA 0
    have hS := lays_set hA 0 (.slice oa r.length (cap - 1))
    have l0 := lays_other (lays_new (w := w) (o := .cells #[.int .i64 k, .int .i64 z] 37) rfl) (a := ⟨B, 0, none⟩) (by simp; omega) (.slice oa r.length (cap - 1))
    have d0 := cell_lays l0 0
    have d1 := cell_lays l0 1
    have HS : Hid (((w.alloc (.cells #[.int .i64 k, .int .i64 z] 37)).setCell ⟨B, 0, none⟩ (.slice oa r.length (cap - 1))).heap[B]? = some (.cells #[.slice oa r.length (cap - 1), .slice ob vals.length cb] 31)) := hide hS
    have HX : Hid (KeptX B w ((w.alloc (.cells #[.int .i64 k, .int .i64 z] 37)).setCell ⟨B, 0, none⟩ (.slice oa r.length (cap - 1)))) := hide (((KeptX.refl B w).alloc _).setCell (.inl rfl) _)
    have HKW : Hid (Kept W0 ((w.alloc (.cells #[.int .i64 k, .int .i64 z] 37)).setCell ⟨B, 0, none⟩ (.slice oa r.length (cap - 1)))) := hide (KeptX.kept hkw hB0 (unhide HX))
    have HVV := hide hvv
    have HBL := hide hBlt
    have h1i : (1 : Int) ≤ ((r.length + 1 : Nat) : Int) := by omega
    have h2i : (0 : Int) < ((r.length + 1 : Nat) : Int) := by omega
    clear hv hrest hoa hA hS l0 hvv hkw hB c0 c1 h hk hn hl hBlt
    by_cases h0 : k = 0
    · have hv : valS vals (n + 1) ((k, z) :: r) = (z, r) := by unfold valS; rw [if_pos h0]
      have HVS := hide hv
      clear hv
      subst h0
      go_enter Try.func9, Try.ntmps9
      go_wp2
      go_ret
      exact ⟨.slice oa r.length (cap - 1), by rw [unhide HVS]; rfl, by rw [unhide HVS]; exact unhide HNR, unhide HS, unhide HX⟩
    · by_cases h1 : k = 1
      · have hv : valS vals (n + 1) ((k, z) :: r) = (vals.getD z.toNat 0, r) := by unfold valS; rw [if_neg h0, if_pos h1]
        subst h1
        have hz : 0 ≤ z ∧ z < vals.length := by simp at hy; omega
        obtain ⟨zn, rfl⟩ : ∃ zn : Nat, z = zn := ⟨z.toNat, by omega⟩
        obtain ⟨bv, ov, cv, ev, cz⟩ := (unhide HVV).at (i := zn) (by omega)
        obtain ⟨rfl, rfl⟩ : ob = some ⟨bv, ov, none⟩ ∧ cb = cv := by simpa using ev
        obtain ⟨hz0, hz1⟩ := hz
        have hzz : ((zn : Int)).toNat = zn := by omega
        rw [hzz] at hv
        have cz2 := (unhide HKW).cell cz
        have p2 := cell_lays (unhide HS) 1
        generalize vals.getD zn 0 = q at cz cz2 hv
        have HVS := hide hv
        clear hv ev hzz cz
        go_enter Try.func9, Try.ntmps9
        go_wp2_with fail
        go_quiet (fail)
        go_wp2
        go_ret
        exact ⟨.slice oa r.length (cap - 1), by rw [unhide HVS]; rfl, by rw [unhide HVS]; exact unhide HNR, unhide HS, (unhide HX).trans (.of ((Kept.refl _).drewN _))⟩
      · have hp : 2 ≤ partsS k := by unfold partsS; rw [if_neg (by omega)]; split <;> omega
        have hb0 : (k == 0) = false := beq_eq_false_iff_ne.2 h0
        have hb1 : (k == 1) = false := beq_eq_false_iff_ne.2 h1
        obtain ⟨x1, x2, x3, x4⟩ := val_next vals n r (o - 1 + partsS k) vals.length hl9 (by omega) (unhide HH) (unhide HK) (unhide HN)
        have X1 := hide (And.intro x1 (And.intro x2 (And.intro x3 x4)))
        clear x1 x2 x3 x4
        have HC := hide (value_any vals W0 _ B (unhide HVV) hB0 n r (o - 1 + partsS k) _ _ hl9 (by omega) (unhide HH) (unhide HK) (unhide HN) (unhide HNR) (unhide HKW) (unhide HS))
        go_enter Try.func9, Try.ntmps9
        go_wp2_with fail
        generalize (w.alloc (.cells #[.int .i64 k, .int .i64 z] 37)).setCell ⟨B, 0, none⟩ (.slice oa r.length (cap - 1)) = w1 at HC HX HKW d0 d1 HS ⊢
        refine (unhide HC).mono ?_
        rintro _ w2 ⟨v2, rfl, hn2, hB2, hk2⟩
        have hne : w.heap.size ≠ B := by have := unhide HBL; omega
        generalize w.heap.size = Bx at d0 d1 hne ⊢
        have d2 := hk2.cell (p := ⟨Bx, 0, none⟩) hne d0
        have HK2 := hide ((unhide HX).trans hk2)
        have HKW2 := hide (KeptX.kept (unhide HKW) hB0 hk2)
        have HN2 := hide hn2
        have HB2 := hide hB2
        clear hn2 hk2 hB2 d0 d1 HC HX HKW HS HNR
        obtain ⟨x1, x2, x3, x4⟩ := unhide X1
        obtain ⟨y1, y2, y3, y4⟩ := val_next vals n _ (o - 1 + partsS k - 1) vals.length x1 (by omega) x2 x3 x4
        have X2 := hide (And.intro y1 (And.intro y2 (And.intro y3 y4)))
        have HC := hide (value_any vals W0 _ B (unhide HVV) hB0 n _ (o - 1 + partsS k - 1) _ _ x1 (by omega) x2 x3 x4 (unhide HN2) (unhide HKW2) (unhide HB2))
        clear y1 y2 y3 y4 x1 x2 x3 x4
        go_wp2_with fail
        refine (unhide HC).mono ?_
        rintro _ w3 ⟨v3, rfl, hn3, hB3, hk3⟩
        have d3 := hk3.cell (p := ⟨Bx, 0, none⟩) hne d2
        have HK3 := hide ((unhide HK2).trans hk3)
        have HKW3 := hide (KeptX.kept (unhide HKW2) hB0 hk3)
        have HN3 := hide hn3
        have HB3 := hide hB3
        clear hn3 hk3 hB3 d2 HK2 HN2 HC HB2 HKW2
        by_cases h7 : k = 7
        · have hv : valS vals (n + 1) ((k, z) :: r) = (if (valS vals n r).1 = 0 then (valS vals n (valS vals n (valS vals n r).2).2).1 else (valS vals n (valS vals n r).2).1, (valS vals n (valS vals n (valS vals n r).2).2).2) := by
            conv => lhs; unfold valS
            rw [if_neg h0, if_neg h1, if_pos h7]
          have hp3 : partsS k = 3 := by rw [h7]; rfl
          rw [hp3] at X2
          clear hp X1 HH
          subst h7
          generalize (valS vals n r).1 = va at hv ⊢
          generalize (valS vals n (valS vals n r).2).1 = vb at hv ⊢
          generalize hq : (valS vals n (valS vals n r).2).2 = r2 at hv X2 HN3 ⊢
          clear hq
          have HVS := hide hv
          clear hv
          obtain ⟨x1, x2, x3, x4⟩ := unhide X2
          have HC := hide (value_any vals W0 _ B (unhide HVV) hB0 n r2 (o - 1 + 3 - 1 - 1) _ _ x1 (by omega) x2 x3 x4 (unhide HN3) (unhide HKW3) (unhide HB3))
          clear x1 x2 x3 x4
          go_wp2_with fail
          refine (unhide HC).mono ?_
          rintro _ w4 ⟨v4, rfl, hn4, hB4, hk4⟩
          have HK4 := hide ((unhide HK3).trans hk4)
          have HN4 := hide hn4
          have HB4 := hide hB4
          clear hn4 hk4 hB4 X2 HC
          generalize (valS vals n r2).1 = vc at HVS ⊢
          generalize (valS vals n r2).2 = r3 at HVS HN4
          by_cases ha : va = 0
          · subst ha
            go_wp2
            go_ret
            exact ⟨v4, by rw [unhide HVS]; simp, by rw [unhide HVS]; exact unhide HN4, unhide HB4, unhide HK4⟩
          · have hba : (va != 0) = true := bne_iff_ne.2 ha
            have HA := hide ha
            clear ha
            go_wp2
            go_ret
            exact ⟨v4, by rw [unhide HVS]; simp [unhide HA], by rw [unhide HVS]; exact unhide HN4, unhide HB4, unhide HK4⟩
        · have hv : valS vals (n + 1) ((k, z) :: r) = (twoS k (valS vals n r).1 (valS vals n (valS vals n r).2).1, (valS vals n (valS vals n r).2).2) := by
            conv => lhs; unfold valS
            rw [if_neg h0, if_neg h1, if_neg h7]
          clear hp X1 X2 HH
          generalize (valS vals n r).1 = va at hv ⊢
          generalize (valS vals n (valS vals n r).2).1 = vb at hv ⊢
          generalize (valS vals n (valS vals n r).2).2 = r2 at hv HN3
          have HVS := hide hv
          clear hv
          have b7 : (k != 7) = true := bne_iff_ne.2 h7
          have HC := hide (ofTwo_any k va vb w3 (by omega) (by omega))
          go_wp2_with fail
          refine (unhide HC).mono ?_
          rintro _ _ ⟨rfl, rfl⟩
          clear HC
          generalize twoS k va vb = q at HVS ⊢
          go_wp2
          go_ret
          exact ⟨v3, by rw [unhide HVS]; rfl, by rw [unhide HVS]; exact unhide HN3, unhide HB3, unhide HK3⟩

/-- The program's Value answers what J1 says. -/
theorem exValue_any (e : List (Int × Int)) (vals : List Int) (v vv : Value) (w : World) (he : NodesAt w v e) (hw : ∀ x ∈ e, (Lit.int .i64 x.1).wf = true) (hv : IntsW w vv vals) :
    Calls Try.prog 4 #[v, vv] w fun x w' => x = .returned (.tuple #[.int .i64 (exValS e vals), .int .i64 (exErrS e vals.length)]) ∧ Kept w w' := by
  obtain ⟨ob, cb, rfl, hlv, _⟩ := id hv
  obtain ⟨oe', ce', rfl, _, _⟩ := id he
  have HE := hide he
  have HV := hide hv
  have HX := hide (check_any e _ vals.length w he hw)
  clear he hv hw
  by_cases hz : exErrS e vals.length = 0
  · obtain ⟨_, _, l9, ke, ne, oe⟩ := exErr_ok hz
    have hval : exValS e vals = (valS vals 9 e).1 := by unfold exValS; rw [if_pos hz]
    rw [hz, hval]
    have HZ := hide hz
    go_enter Try.func4, Try.ntmps4
    go_wp2_with fail
    refine (unhide HX).mono ?_
    rintro _ w1 ⟨rfl, hk1⟩
    rw [unhide HZ]
    have hk2 := hk1.alloc (.cells #[.slice oe' e.length ce', .slice ob vals.length cb] 31)
    have HW := hide (value_any vals w (.slice ob vals.length cb) w1.heap.size (unhide HV) hk1.size 9 e 1 _ _ l9 (by omega) oe ke ne (unhide HE) hk2 (lays_new rfl))
    have HS := hide hk1.size
    have HK2 := hide hk2
    clear hk1 hk2 hz hval l9 ke ne oe
    go_wp2_with fail
    refine (unhide HW).mono ?_
    rintro _ w2 ⟨v2, rfl, hn2, hB2, hk3⟩
    have HK3 := hide (KeptX.kept (unhide HK2) (unhide HS) hk3)
    clear hn2 hB2 hk3 HW HX
    go_wp2
    go_ret2
    exact ⟨rfl, unhide HK3⟩
  · have hval : exValS e vals = 0 := by unfold exValS; rw [if_neg hz]
    rw [hval]
    have hb : (exErrS e vals.length != 0) = true := bne_iff_ne.2 hz
    generalize exErrS e vals.length = q at hz hb HX ⊢
    clear hval hz
    go_enter Try.func4, Try.ntmps4
    go_wp2_with fail
    refine (unhide HX).mono ?_
    rintro _ w1 ⟨rfl, hk1⟩
    have HK1 := hide hk1
    clear hk1
    go_wp2
    go_ret2
    exact ⟨rfl, unhide HK1⟩
end Go.Proofs.Ytohlefnljgkdcae
