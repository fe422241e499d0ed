/-
  The contracts of the reference's size, truth and worth.
-/
import Derived.Test.YtohlefnljgkdcaeExprG
import Derived.Deep.RegionHeld3
namespace Go.Proofs.Ytohlefnljgkdcae
open Go.RowKit

theorem size_any (k : Int) (w : World) : Calls Try.prog 15 #[.int .i64 k] w fun e w' => e = .returned (.int .i64 (partsS k)) ∧ w = w' := by
  unfold partsS
  by_cases h1 : k ≤ 1
  · rw [if_pos h1]
    go_enter Try.func15, Try.ntmps15
    go_wp2
    go_ret
    exact ⟨rfl, rfl⟩
  · rw [if_neg h1]
    by_cases h7 : k < 7
    · rw [if_pos h7]
      go_enter Try.func15, Try.ntmps15
      go_wp2
      go_ret
      exact ⟨rfl, rfl⟩
    · rw [if_neg h7]
      go_enter Try.func15, Try.ntmps15
      go_wp2
      go_ret
      exact ⟨rfl, rfl⟩

theorem refTruth_any (b : Bool) (w : World) : Calls Try.prog 17 #[.bool b] w fun e w' => e = .returned (.int .i64 (if b = true then 1 else 0)) ∧ w = w' := by
  cases b
  · go_enter Try.func17, Try.ntmps17
    go_wp2
    go_ret
    exact ⟨rfl, rfl⟩
  · go_enter Try.func17, Try.ntmps17
    go_wp2
    go_ret
    exact ⟨rfl, rfl⟩

/-- What worth gives back. -/
def WorthPost (vals : List Int) (n : Nat) (e : List (Int × Int)) (w : World) (x : Ending) (w' : World) : Prop :=
  ∃ v', x = .returned (.tuple #[.int .i64 (valS vals n e).1, v']) ∧ NodesAt w' v' (valS vals n e).2 ∧ Kept w w'

set_option maxRecDepth 100000 in
set_option maxHeartbeats 2000000 in
theorem worth_any (vals : List Int) : ∀ (n : Nat) (e : List (Int × Int)) (o : Int) (v vv : Value) (w : World), e.length ≤ n → 1 ≤ o → onlyS e o = true → (∀ x ∈ e, kindOk x) → (∀ x ∈ e, numOk vals.length x) → NodesAt w v e → IntsW w vv vals →
    Calls Try.prog 10 #[v, vv] w (WorthPost vals n e w)
  | n, [], o, v, vv, w, _, ho, h, _, _, _, _ => by simp [onlyS] at h; omega
  | 0, x :: r, o, v, vv, w, hl, _, _, _, _, _, _ => by simp at hl
  | n + 1, (k, z) :: r, o, v, vv, w, hl, ho, h, hk, hn, hv, hvv => by
    have hx := hk (k, z) (by simp)
    have hy := hn (k, z) (by simp)
    obtain ⟨b, o1, cap, rfl, hcap, hrl, c0, c1, hrest⟩ := hv.first
    unfold kindOk at hx
    unfold numOk mostS at hy
    have hl9 : r.length ≤ n := by simpa using hl
    obtain ⟨ob, cb, rfl, hlv, _⟩ := id hvv
    have HY : Hid (∀ u, Kept w u → u.cell? ⟨b, o1, none⟩ = some (.int .i64 k) ∧ u.cell? ⟨b, o1 + 1, none⟩ = some (.int .i64 z)) := hide (fun u hu => ⟨hu.cell c0, hu.cell c1⟩)
    have HR := hide hrest
    have HV := hide hvv
    have HH := hide (show onlyS r (o - 1 + partsS k) = true by simp only [onlyS] at h; rwa [if_neg (by omega)] at h)
    have HK := hide (show ∀ y ∈ r, kindOk y from fun y hy => hk y (by simp [hy]))
    have HN := hide (show ∀ y ∈ r, numOk vals.length y from fun y hy => hn y (by simp [hy]))
    clear hrest hvv h hk hn hv c0 c1 hl
    obtain ⟨oa, hoa, hsl⟩ := cut_first b o1 r.length cap hcap
    have HOA := hide hoa
    clear hoa
    have h1i : (1 : Int) ≤ ((r.length + 1 : Nat) : Int) := by omega
    have h2i : (0 : Int) < ((r.length + 1 : Nat) : Int) := by omega
    go_enter Try.func10, Try.ntmps10
    go_wp2_with fail
    go_region_held3 (fun u => u.cell? ⟨b, o1, none⟩ = some (.int .i64 k) ∧ u.cell? ⟨b, o1 + 1, none⟩ = some (.int .i64 z)) (exact (unhide HY) _ (by repeat (first | exact Kept.refl _ | refine Kept.drew ?_ | refine Kept.alloc ?_ _ | refine Kept.setCell ?_ (by simp) _))) (fail)
    rename_i hheld
    clear hheld
    have HK1 : Hid (Kept w (w.alloc (.cells #[.int .i64 k, .int .i64 z] 37)).drew) := hide ((Kept.refl w).alloc _).drew
    have HNR : Hid (NodesAt (w.alloc (.cells #[.int .i64 k, .int .i64 z] 37)).drew (.slice oa r.length (cap - 1)) r) := hide (((unhide HR) (cap - 1) oa (by omega) (fun hne => (unhide HOA) (by simpa using hne))).kept (unhide HK1))
    have d0 : (w.alloc (.cells #[.int .i64 k, .int .i64 z] 37)).drew.cell? ⟨w.heap.size, 0, none⟩ = some (.int .i64 k) := cell_lays (lays_drew (lays_new rfl)) 0
    have d1 : (w.alloc (.cells #[.int .i64 k, .int .i64 z] 37)).drew.cell? ⟨w.heap.size, 1, none⟩ = some (.int .i64 z) := cell_lays (lays_drew (lays_new rfl)) 1
    have HVV := hide ((unhide HV).kept (unhide HK1))
    generalize (w.alloc (.cells #[.int .i64 k, .int .i64 z] 37)).drew = w1 at HK1 HNR d0 d1 HVV ⊢
    clear HY HR hsl HV
    generalize w.heap.size = B at d0 d1 ⊢
    by_cases h0 : k = 0
    · have hv : valS vals (n + 1) ((k, z) :: r) = (z, r) := by unfold valS; rw [if_pos h0]
      have HVS := hide hv
      clear hv
      subst h0
      go_wp2
      go_ret2
      exact ⟨.slice oa r.length (cap - 1), by rw [unhide HVS]; rfl, by rw [unhide HVS]; exact unhide HNR, unhide HK1⟩
    · by_cases h1 : k = 1
      · have hv : valS vals (n + 1) ((k, z) :: r) = (vals.getD z.toNat 0, r) := by unfold valS; rw [if_neg h0, if_pos h1]
        subst h1
        have hz : 0 ≤ z ∧ z < vals.length := by simp at hy; omega
        obtain ⟨zn, rfl⟩ : ∃ zn : Nat, z = zn := ⟨z.toNat, by omega⟩
        obtain ⟨bv, ov, cv, ev, cz⟩ := (unhide HVV).at (i := zn) (by omega)
        obtain ⟨rfl, rfl⟩ : ob = some ⟨bv, ov, none⟩ ∧ cb = cv := by simpa using ev
        obtain ⟨hz0, hz1⟩ := hz
        have hzz : ((zn : Int)).toNat = zn := by omega
        rw [hzz] at hv
        generalize vals.getD zn 0 = q at cz hv
        have HVS := hide hv
        clear hv ev hzz
        go_wp2
        go_ret2
        exact ⟨.slice oa r.length (cap - 1), by rw [unhide HVS]; rfl, by rw [unhide HVS]; exact unhide HNR, unhide HK1⟩
      · have hp : 2 ≤ partsS k := by unfold partsS; rw [if_neg (by omega)]; split <;> omega
        have hb0 : (k == 0) = false := beq_eq_false_iff_ne.2 h0
        have hb1 : (k == 1) = false := beq_eq_false_iff_ne.2 h1
        obtain ⟨x1, x2, x3, x4⟩ := val_next vals n r (o - 1 + partsS k) vals.length hl9 (by omega) (unhide HH) (unhide HK) (unhide HN)
        have X1 := hide (And.intro x1 (And.intro x2 (And.intro x3 x4)))
        clear x1 x2 x3 x4
        go_wp2_with fail
        refine (worth_any vals n r (o - 1 + partsS k) _ _ w1 hl9 (by omega) (unhide HH) (unhide HK) (unhide HN) (unhide HNR) (unhide HVV)).mono ?_
        rintro _ w2 ⟨v2, rfl, hn2, hk2⟩
        have d2 := hk2.cell d0
        have HK2 := hide ((unhide HK1).trans hk2)
        have HN2 := hide hn2
        have HV2 := hide ((unhide HVV).kept hk2)
        clear hn2 hk2 d0 d1 HK1 HVV HNR
        go_wp2_with fail
        obtain ⟨x1, x2, x3, x4⟩ := unhide X1
        obtain ⟨y1, y2, y3, y4⟩ := val_next vals n _ (o - 1 + partsS k - 1) vals.length x1 (by omega) x2 x3 x4
        have X2 := hide (And.intro y1 (And.intro y2 (And.intro y3 y4)))
        clear y1 y2 y3 y4
        refine (worth_any vals n _ (o - 1 + partsS k - 1) _ _ w2 x1 (by omega) x2 x3 x4 (unhide HN2) (unhide HV2)).mono ?_
        clear x1 x2 x3 x4
        rintro _ w3 ⟨v3, rfl, hn3, hk3⟩
        have d3 := hk3.cell d2
        have HK3 := hide ((unhide HK2).trans hk3)
        have HN3 := hide hn3
        have HV3 := hide ((unhide HV2).kept hk3)
        clear hn3 hk3 d2 HK2 HV2 HN2
        by_cases h7 : k = 7
        · have hv : valS vals (n + 1) ((k, z) :: r) = (if (valS vals n r).1 = 0 then (valS vals n (valS vals n (valS vals n r).2).2).1 else (valS vals n (valS vals n r).2).1, (valS vals n (valS vals n (valS vals n r).2).2).2) := by
            conv => lhs; unfold valS
            rw [if_neg h0, if_neg h1, if_pos h7]
          have hp3 : partsS k = 3 := by rw [h7]; rfl
          rw [hp3] at X2
          clear hp X1 HH
          subst h7
          generalize (valS vals n r).1 = va at hv ⊢
          generalize (valS vals n (valS vals n r).2).1 = vb at hv ⊢
          generalize hq : (valS vals n (valS vals n r).2).2 = r2 at hv X2 HN3 ⊢
          clear hq
          have HVS := hide hv
          clear hv
          go_wp2_with fail
          obtain ⟨x1, x2, x3, x4⟩ := unhide X2
          refine (worth_any vals n r2 (o - 1 + 3 - 1 - 1) _ _ w3 x1 (by omega) x2 x3 x4 (unhide HN3) (unhide HV3)).mono ?_
          clear x1 x2 x3 x4
          rintro _ w4 ⟨v4, rfl, hn4, hk4⟩
          have HK4 := hide ((unhide HK3).trans hk4)
          have HN4 := hide hn4
          clear hn4 hk4 X2
          generalize (valS vals n r2).1 = vc at HVS ⊢
          generalize (valS vals n r2).2 = r3 at HVS HN4
          by_cases ha : va = 0
          · subst ha
            go_wp2
            go_ret2
            exact ⟨v4, by rw [unhide HVS]; simp, by rw [unhide HVS]; exact unhide HN4, unhide HK4⟩
          · have hba : (va != 0) = true := bne_iff_ne.2 ha
            have HA := hide ha
            clear ha
            go_wp2
            go_ret2
            exact ⟨v4, by rw [unhide HVS]; simp [unhide HA], by rw [unhide HVS]; exact unhide HN4, unhide HK4⟩
        · have hv : valS vals (n + 1) ((k, z) :: r) = (twoS k (valS vals n r).1 (valS vals n (valS vals n r).2).1, (valS vals n (valS vals n r).2).2) := by
            conv => lhs; unfold valS
            rw [if_neg h0, if_neg h1, if_neg h7]
          clear hp X1 X2 HH
          generalize (valS vals n r).1 = va at hv ⊢
          generalize (valS vals n (valS vals n r).2).1 = vb at hv ⊢
          generalize (valS vals n (valS vals n r).2).2 = r2 at hv HN3
          by_cases k2 : k = 2
          · subst k2
            have HVS := hide hv
            clear hv
            go_wp2
            go_ret2
            exact ⟨v3, by rw [unhide HVS]; simp [twoS], by rw [unhide HVS]; exact unhide HN3, unhide HK3⟩
          · by_cases k3 : k = 3
            · subst k3
              have HVS := hide hv
              clear hv
              go_wp2
              go_ret2
              exact ⟨v3, by rw [unhide HVS]; simp [twoS], by rw [unhide HVS]; exact unhide HN3, unhide HK3⟩
            · by_cases k4 : k = 4
              · subst k4
                have HVS := hide hv
                clear hv
                go_wp2
                go_ret2
                exact ⟨v3, by rw [unhide HVS]; simp [twoS], by rw [unhide HVS]; exact unhide HN3, unhide HK3⟩
              · by_cases k5 : k = 5
                · subst k5
                  have HVS := hide hv
                  clear hv
                  go_wp2_with fail
                  refine (refTruth_any _ _).mono ?_
                  rintro _ _ ⟨rfl, rfl⟩
                  generalize hT : (if decide (va < vb) = true then (1 : Int) else 0) = tt
                  have HT := hide hT
                  clear hT
                  go_wp2
                  go_ret2
                  exact ⟨v3, by rw [unhide HVS, ← unhide HT]; simp [twoS], by rw [unhide HVS]; exact unhide HN3, unhide HK3⟩
                · obtain rfl : k = 6 := by omega
                  have HVS := hide hv
                  clear hv
                  go_wp2_with fail
                  refine (refTruth_any _ _).mono ?_
                  rintro _ _ ⟨rfl, rfl⟩
                  generalize hT : (if decide ((va = vb)) = true then (1 : Int) else 0) = tt
                  have HT := hide hT
                  clear hT
                  go_wp2
                  go_ret2
                  exact ⟨v3, by rw [unhide HVS, ← unhide HT]; simp [twoS], by rw [unhide HVS]; exact unhide HN3, unhide HK3⟩
end Go.Proofs.Ytohlefnljgkdcae
