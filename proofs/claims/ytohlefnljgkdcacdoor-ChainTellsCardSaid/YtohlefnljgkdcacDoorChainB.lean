/-
  The contracts of chain.Kind, and of the reference's LineOf, KindOf.
-/
import Derived.Test.YtohlefnljgkdcacDoorChainA
namespace Go.Proofs.YtohlefnljgkdcacDoor
open Go.RowKit

def kindC (p : List Fn) (s : St) (k : Nat) : Int :=
  if (fibAt s k).frames.length = 0 then 0 else if (k : Int) = s.now then 1 else if (k : Int) ∈ lineC p s then 2 else if (frAt s k 0).at_ = 0 then 3 else 4
def kindE (p : List Fn) (s : St) (n : Int) : Int × Int :=
  if stErrS p s = 0 then (if 0 ≤ n ∧ n < s.fibers.length then (kindC p s n.toNat, 0) else (0, 5)) else (0, stErrS p s)

theorem fresh_at {p : List Fn} {s : St} (h : stErrS p s = 0) {k : Nat} (hk : k < s.fibers.length) (h0 : (fibAt s k).frames.length ≠ 0) (hn : (k : Int) ≠ s.now) (hl : (k : Int) ∉ lineC p s) :
    freshB p (fibAt s k) = decide ((frAt s k 0).at_ = 0) := by
  obtain ⟨l, hl1, hf⟩ := right_fiber h
  have hll : l = lineC p s := Option.some.inj (hl1.symm.trans (right_line h).1)
  rw [← hll] at hl
  have hfk := hf k hk
  unfold fiberB at hfk
  unfold frAt
  generalize fibAt s k = b at *
  obtain ⟨fr, ca⟩ := b
  match fr, h0, hfk with
  | [x], _, hfk =>
    simp only [List.getLast?_singleton, Bool.and_eq_true] at hfk
    obtain ⟨_, hc⟩ := hfk
    rw [if_neg (by simpa using hn), if_neg (by simpa using hl)] at hc
    simp only [Bool.and_eq_true, Bool.or_eq_true] at hc
    show freshB p ⟨[x], ca⟩ = decide (x.at_ = 0)
    rcases hc.2 with h1 | h1
    · rw [h1]
      unfold freshB at h1
      simp only [Bool.and_eq_true] at h1
      exact h1.1.1.symm
    · unfold waitB at h1
      simp only [Bool.and_eq_true, Bool.not_eq_true', decide_eq_false_iff_not] at h1
      rw [decide_eq_false h1.1.1]
      unfold freshB
      simp [h1.1.1]
  | x :: y :: r, _, hfk =>
    have hfr : framesB p (x :: y :: r) = true := by
      split at hfk
      · rename_i hn; simp at hn
      · exact (Bool.and_eq_true _ _ ▸ hfk).1
    unfold framesB at hfr
    simp only [Bool.and_eq_true] at hfr
    have hw := hfr.1.2.2
    unfold waitB at hw
    simp only [Bool.and_eq_true, Bool.not_eq_true', decide_eq_false_iff_not] at hw
    show freshB p ⟨x :: y :: r, ca⟩ = decide (x.at_ = 0)
    rw [decide_eq_false hw.1.1]
    rfl

set_option maxRecDepth 100000 in
set_option maxHeartbeats 4000000 in
theorem chainKind_any (p : List Fn) (s : St) (n : Int) (vp v : Value) (w : World) (hp : ProgAt w vp p) (hs : StAt w v s) (hk : KindsAt w)
    (HCK : Hid (∀ u, ProgAt u vp p → StAt u v s → KindsAt u → Calls Tryd.prog 6 #[vp, v] u fun e w' => e = .returned (.int .i64 (stErrS p s)) ∧ Kept u w')) :
    Calls Tryd.prog 11 #[vp, v, .int .i64 n] w fun e w' => e = .returned (.tuple #[.int .i64 (kindE p s n).1, .int .i64 (kindE p s n).2]) ∧ Kept w w' := by
  generalize hE : kindE p s n = r
  obtain ⟨r1, r2⟩ := r
  have HE := hide hE
  have HP := hide hp
  have HK := hide hk
  have HS := hide hs
  obtain ⟨vf, vo, rfl, hF, hO⟩ := hs
  obtain ⟨pFA, qFA, rfl, hfl, hFC⟩ := hF
  obtain ⟨pOA, qOA, rfl, _, _⟩ := hO
  obtain ⟨oa, cp, rfl, _, _⟩ := hp
  have HC := hide hFC
  clear hk hFC hE
  go_enter Tryd.func11, Tryd.ntmps11
  go_wp2_with fail
  have ha1 : Kept w (w.alloc (.cells #[.slice pFA s.fibers.length qFA, .int .i64 s.now, .slice pOA s.out.length qOA] 26)) := (Kept.refl w).alloc _
  refine (chainLine_any p s _ _ _ ((unhide HP).kept ha1) ((unhide HS).kept ha1) ((unhide HK).kept ha1) HCK).mono ?_
  unfold LinePost2
  rintro _ w2 ⟨vl, rfl, hia, hk2⟩
  have H2 := hide (ha1.trans hk2)
  obtain ⟨oL, cL, rfl, _, _⟩ := id hia
  have HIA := hide hia
  have m0 : w2.cell? ⟨w.heap.size, 0, none⟩ = some (.slice pFA s.fibers.length qFA) := hk2.cell (by simp)
  have m1 : w2.cell? ⟨w.heap.size, 1, none⟩ = some (.int .i64 s.now) := hk2.cell (by simp)
  generalize w.heap.size = A at m0 m1 ⊢
  clear hia hk2 ha1
  have FIN : ∀ (a b : Int) (u : World) (x : Ending), (r1, r2) = (a, b) → x = .returned (.tuple #[.int .i64 a, .int .i64 b]) → Kept w u → x = .returned (.tuple #[.int .i64 r1, .int .i64 r2]) ∧ Kept w u := by
    intro a b u x h1 h2 h3
    rw [(Prod.mk.inj h1).1, (Prod.mk.inj h1).2]
    exact ⟨h2, h3⟩
  have HFIN := hide FIN
  clear FIN
  by_cases hz : stErrS p s = 0
  · rw [hz]
    have HZ := hide hz
    clear hz
    by_cases hb : 0 ≤ n ∧ n < s.fibers.length
    · have hE : (r1, r2) = (kindC p s n.toNat, 0) := by
        rw [← unhide HE]; unfold kindE; rw [if_pos (unhide HZ), if_pos hb]
      obtain ⟨k, rfl⟩ := Int.eq_ofNat_of_zero_le hb.1
      rw [Int.toNat_natCast] at hE
      have hkm : k < s.fibers.length := by omega
      obtain ⟨bF, oF, vR, e1, kF, _, pR, cR, e2, ⟨hR1, _⟩, hFR⟩ := (unhide HC) k _ (getD_of_lt s.fibers k Fb.zero hkm)
      subst e1 e2
      have hfr : s.fibers.getD k Fb.zero = fibAt s k := rfl
      rw [hfr] at kF hFR hR1
      have kF2 := (unhide H2).cell kF
      have HFR := hide hFR
      have d1 : decide ((k : Int) < 0) = false := by simp
      have d2 : decide ((s.fibers.length : Int) ≤ (k : Int)) = false := by simpa using hkm
      clear hb kF hFR hfr HE HC
      by_cases hq : (fibAt s k).frames.length = 0
      · have hkc : kindC p s k = 0 := by unfold kindC; rw [if_pos hq]
        rw [hkc] at hE
        rw [hq] at kF2
        have HE := hide hE
        clear hE hkc
        generalize s.fibers.length = m at *
        go_wp2
        go_ret2
        exact (unhide HFIN) _ _ _ _ (unhide HE) rfl (unhide H2)
      · have hqb : (((fibAt s k).frames.length : Int) == 0) = false := beq_eq_false_iff_ne.2 (by omega)
        have hkc : kindC p s k = if (k : Int) = s.now then 1 else if (k : Int) ∈ lineC p s then 2 else if (frAt s k 0).at_ = 0 then 3 else 4 := by unfold kindC; rw [if_neg hq]
        obtain ⟨bR, oR, vl, vs, e1, k0, k1, k2, k3, _, _⟩ := (unhide HFR) 0 _ (getD_of_lt (fibAt s k).frames 0 Fr.zero (by omega))
        subst e1
        have hx : (fibAt s k).frames.getD 0 Fr.zero = frAt s k 0 := rfl
        rw [hx] at k1
        have y1 := (unhide H2).cell k1
        have HCN := hide (contains_any (lineC p s) _ (k : Int) w2 (unhide HIA))
        clear k0 k1 k2 k3 hx HFR
        generalize (fibAt s k).frames.length = q at *
        have hq1 : 0 < q := by omega
        generalize s.fibers.length = m at *
        generalize (frAt s k 0).at_ = a at *
        generalize (lineC p s).length = ln at *
        by_cases hnow : (k : Int) = s.now
        · have hnb : ((k : Int) == s.now) = true := by rw [beq_iff_eq]; exact hnow
          rw [if_pos hnow] at hkc
          rw [hkc] at hE
          have HE := hide hE
          clear hE hkc hnow
          generalize s.now = c at *
          go_wp2
          go_ret2
          exact (unhide HFIN) _ _ _ _ (unhide HE) rfl (unhide H2)
        · have hnb : ((k : Int) == s.now) = false := by rw [beq_eq_false_iff_ne]; exact hnow
          rw [if_neg hnow] at hkc
          generalize s.now = c at *
          clear hnow
          by_cases hin : (k : Int) ∈ lineC p s
          · rw [if_pos hin] at hkc
            rw [hkc] at hE
            rw [decide_eq_true hin] at HCN
            have HE := hide hE
            clear hE hkc hin
            go_wp2_with fail
            refine (unhide HCN).mono ?_
            rintro _ w3 ⟨rfl, hk3⟩
            have H3 := hide ((unhide H2).trans hk3)
            clear hk3
            go_wp2
            go_ret2
            exact (unhide HFIN) _ _ _ _ (unhide HE) rfl (unhide H3)
          · rw [if_neg hin] at hkc
            rw [decide_eq_false hin] at HCN
            rw [hkc] at hE
            have HE := hide hE
            clear hkc hin hE
            go_wp2_with fail
            refine (unhide HCN).mono ?_
            rintro _ w3 ⟨rfl, hk3⟩
            have H3 := hide ((unhide H2).trans hk3)
            have y13 := hk3.cell y1
            clear hk3 y1
            by_cases ha : a = 0
            · have hab : (a == 0) = true := by rw [beq_iff_eq]; exact ha
              have hE := unhide HE
              rw [if_pos ha] at hE
              have HE2 := hide hE
              clear ha hE
              go_wp2
              go_ret2
              exact (unhide HFIN) _ _ _ _ (unhide HE2) rfl (unhide H3)
            · have hab : (a == 0) = false := by rw [beq_eq_false_iff_ne]; exact ha
              have hE := unhide HE
              rw [if_neg ha] at hE
              have HE2 := hide hE
              clear ha hE
              go_wp2
              go_ret2
              exact (unhide HFIN) _ _ _ _ (unhide HE2) rfl (unhide H3)
    · have hE : (r1, r2) = (0, 5) := by
        rw [← unhide HE]; unfold kindE; rw [if_pos (unhide HZ), if_neg hb]
      have HE2 := hide hE
      generalize s.fibers.length = m at *
      by_cases h0 : n < 0
      · have d1 : decide (n < 0) = true := decide_eq_true h0
        clear hb hE
        go_wp2
        go_ret2
        exact (unhide HFIN) _ _ _ _ (unhide HE2) rfl (unhide H2)
      · have d1 : decide (n < 0) = false := decide_eq_false h0
        have d2 : decide ((m : Int) ≤ n) = true := decide_eq_true (by omega)
        clear hb hE
        go_wp2
        go_ret2
        exact (unhide HFIN) _ _ _ _ (unhide HE2) rfl (unhide H2)
  · have hzb : (stErrS p s != 0) = true := by rw [bne_iff_ne]; exact hz
    have hE : (r1, r2) = (0, stErrS p s) := by
      rw [← unhide HE]; unfold kindE; rw [if_neg hz]
    have HE2 := hide hE
    generalize stErrS p s = r at *
    clear hE hz
    go_wp2
    go_ret2
    exact (unhide HFIN) _ _ _ _ (unhide HE2) rfl (unhide H2)

def LineOfPost (l : List Int) (w : World) (e : Ending) (w' : World) : Prop := ∃ v, e = .returned v ∧ IntsAt w' v l ∧ Kept w w'
set_option maxRecDepth 100000 in
set_option maxHeartbeats 2000000 in
theorem refLine_any (p : List Fn) (s : St) (v : Value) (w : World) (hs : StAt w v s) (hz : stErrS p s = 0) :
    Calls Tryd.prog 13 #[v] w fun e w' => LineOfPost (lineC p s) w e w' := by
  obtain ⟨hls, _⟩ := right_line hz
  obtain ⟨_, hlim, _⟩ := right_parts hz
  obtain ⟨h5, _, _, _, hnow, hcal⟩ := limS_zero hlim
  generalize lineC p s = l at *
  unfold LineOfPost
  have HL := hide (fun u (hu : Kept w u) => lineOf_any s v u (hs.kept hu) hnow hcal (by omega))
  have HLS := hide hls
  obtain ⟨vf, vo, rfl, hF, hO⟩ := hs
  obtain ⟨pFA, qFA, rfl, hfl, _⟩ := hF
  obtain ⟨pOA, qOA, rfl, _, _⟩ := hO
  clear hls hcal hnow hlim hz
  go_enter Tryd.func13, Tryd.ntmps13
  go_wp2_with fail
  have ha1 : Kept w (w.alloc (.cells #[.slice pFA s.fibers.length qFA, .int .i64 s.now, .slice pOA s.out.length qOA] 26)) := (Kept.refl w).alloc _
  refine ((unhide HL) _ ha1).mono ?_
  unfold LinePost
  rw [unhide HLS]
  rintro _ w2 ⟨vl, b, rfl, hk2, rfl, hia⟩
  have H2 := hide (ha1.trans hk2)
  obtain ⟨oL, cL, rfl, _, _⟩ := id hia
  have HIA := hide hia
  clear hk2 ha1 hia
  go_wp2
  go_ret
  exact ⟨_, rfl, unhide HIA, unhide H2⟩

set_option maxRecDepth 100000 in
set_option maxHeartbeats 4000000 in
theorem kindOf_any (p : List Fn) (s : St) (k : Nat) (vp v : Value) (w : World) (hp : ProgAt w vp p) (hs : StAt w v s) (hz : stErrS p s = 0) (hkm : k < s.fibers.length) :
    Calls Tryd.prog 14 #[vp, v, .int .i64 k] w fun e w' => e = .returned (.int .i64 (kindC p s k)) ∧ Kept w w' := by
  have HP := hide hp
  have HS := hide hs
  have HZ := hide hz
  obtain ⟨vf, vo, rfl, hF, hO⟩ := hs
  obtain ⟨pFA, qFA, rfl, hfl, hFC⟩ := hF
  obtain ⟨pOA, qOA, rfl, _, _⟩ := hO
  obtain ⟨oa, cp, rfl, _, _⟩ := hp
  obtain ⟨bF, oF, vR, e1, kF, kC, hfra⟩ := hFC k _ (getD_of_lt s.fibers k Fb.zero hkm)
  obtain ⟨pR, cR, e2, ⟨hR1, _⟩, _⟩ := id hfra
  subst e1 e2
  have hfr : s.fibers.getD k Fb.zero = fibAt s k := rfl
  rw [hfr] at kF kC hfra hR1
  have HFB : Hid (FbV w (.agg #[.slice pR (fibAt s k).frames.length cR, .int .i64 (fibAt s k).caller]) (fibAt s k)) := hide ⟨_, rfl, hfra⟩
  have HIN : Hid (∀ x, x ∈ (fibAt s k).frames → 0 ≤ x.fn ∧ x.fn < p.length) := hide (fun x hx => by
    obtain ⟨j, hj, rfl⟩ := List.getElem_of_mem hx
    have := (frame_parts (right_frame (unhide HZ) hkm hj).1).1
    simpa [frAt, List.getD, hj] using this)
  clear hFC hz hfr hfra
  generalize hG : kindC p s k = g
  have HG := hide hG
  unfold kindC at hG
  have hw : ∀ o : Obj, (w.alloc o).cell? ⟨bF, oF + k * 2, none⟩ = some (.slice pR (fibAt s k).frames.length cR) := fun o => ((Kept.refl w).alloc o).cell kF
  have KC := hide kC
  have KF := hide kF
  clear kC kF
  by_cases hq : (fibAt s k).frames.length = 0
  · rw [if_pos hq] at hG
    subst hG
    rw [hq] at hw
    clear HG
    go_enter Tryd.func14, Tryd.ntmps14
    go_wp2
    go_ret
    exact ⟨rfl, (Kept.refl w).alloc _⟩
  · rw [if_neg hq] at hG
    have hqb : (((fibAt s k).frames.length : Int) == 0) = false := beq_eq_false_iff_ne.2 (by omega)
    by_cases hnow : (k : Int) = s.now
    · have hnb : ((k : Int) == s.now) = true := by rw [beq_iff_eq]; exact hnow
      rw [if_pos hnow] at hG
      subst hG
      clear HG hnow
      generalize s.now = c at *
      generalize (fibAt s k).frames.length = q at *
      generalize s.fibers.length = m at *
      go_enter Tryd.func14, Tryd.ntmps14
      go_wp2
      go_ret
      exact ⟨rfl, (Kept.refl w).alloc _⟩
    · have hnb : ((k : Int) == s.now) = false := by rw [beq_eq_false_iff_ne]; exact hnow
      rw [if_neg hnow] at hG
      have HFA := hide (fun hl => fresh_at (unhide HZ) hkm hq hnow hl)
      have HLN := hide (fun u (hu : Kept w u) => refLine_any p s _ u ((unhide HS).kept hu) (unhide HZ))
      have HHAS := hide (fun v u (hu : IntsAt u v (lineC p s)) => has_any (lineC p s) v (k : Int) u hu)
      generalize lineC p s = l at *
      have HGG := hide hG
      clear hG hnow HG
      generalize s.now = c at *
      generalize hq' : (fibAt s k).frames.length = q at *
      clear hq'
      generalize s.fibers.length = m at *
      go_enter Tryd.func14, Tryd.ntmps14
      go_wp2_with fail
      have ha1 : Kept w (w.alloc (.cells #[.slice (some ⟨bF, oF, none⟩) m qFA, .int .i64 c, .slice pOA s.out.length qOA] 26)) := (Kept.refl w).alloc _
      refine ((unhide HLN) _ ha1).mono ?_
      unfold LineOfPost
      rintro _ w2 ⟨vl, rfl, hia, hk2⟩
      have H2 := hide (ha1.trans hk2)
      have m0 : w2.cell? ⟨w.heap.size, 0, none⟩ = some (.slice (some ⟨bF, oF, none⟩) m qFA) := hk2.cell (by simp)
      obtain ⟨oL, cL, rfl, _, _⟩ := id hia
      have HIA := hide ((unhide HHAS) _ _ hia)
      generalize w.heap.size = A at m0 ⊢
      clear hk2 ha1 hia hw
      go_wp2_with fail
      refine (unhide HIA).mono ?_
      rintro _ w3 ⟨rfl, hk3⟩
      have H3 := hide ((unhide H2).trans hk3)
      have m3 := hk3.cell m0
      clear hk3 m0
      have hG := unhide HGG
      by_cases hin : (k : Int) ∈ l
      · rw [if_pos hin] at hG
        subst hG
        rw [decide_eq_true hin]
        clear hin HGG
        go_wp2
        go_ret
        exact ⟨rfl, unhide H3⟩
      · rw [if_neg hin] at hG
        rw [decide_eq_false hin]
        have hfa := (unhide HFA) hin
        have n1 := (unhide H3).cell (unhide KF)
        have n2 := (unhide H3).cell (unhide KC)
        have HFC := hide (fresh_any p _ _ _ w3 ((unhide HP).kept (unhide H3)) ((unhide HFB).kept (unhide H3)) (unhide HIN))
        rw [hfa] at HFC
        have HGG2 := hide hG
        clear hin HGG hG hfa
        go_wp2_with fail
        refine (unhide HFC).mono ?_
        rintro _ w4 ⟨rfl, hk4⟩
        have H4 := hide ((unhide H3).trans hk4)
        clear hk4
        have hG := unhide HGG2
        by_cases ha : (frAt s k 0).at_ = 0
        · rw [if_pos ha] at hG
          subst hG
          rw [decide_eq_true ha]
          clear ha
          go_wp2
          go_ret
          exact ⟨rfl, unhide H4⟩
        · rw [if_neg ha] at hG
          subst hG
          rw [decide_eq_false ha]
          clear ha
          go_wp2
          go_ret
          exact ⟨rfl, unhide H4⟩
end Go.Proofs.YtohlefnljgkdcacDoor
