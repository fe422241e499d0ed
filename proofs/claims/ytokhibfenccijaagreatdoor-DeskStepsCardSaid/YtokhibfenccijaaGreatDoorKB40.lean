/- ChainA, ChainB, ChainP, TrimA -/
import Derived.Test.YtokhibfenccijaaGreatDoorKB39
import Derived.Test.YtokhibfenccijaaGreatDoorKB22
import Derived.Test.YtokhibfenccijaaGreatDoorKB15
import Derived.Maps.OwnSet
set_option maxRecDepth 100000
set_option maxHeartbeats 8000000
namespace Go.Proofs.YtokhibfenccijaaGreatDoor
open Go.RowKit
def lineC (p : List Fn) (s : St) : List Int := if stErrS p s = 0 then (lineS s).getD [] else []
theorem right_line {p : List Fn} {s : St} (h : stErrS p s = 0) : lineS s = some (lineC p s) ∧ lineF s.fibers (s.fibers.length + 1) s.now [] = some (lineC p s) := by
  obtain ⟨l, hl, _⟩ := right_fiber h
  have hc : lineC p s = l := by unfold lineC; rw [if_pos h, hl]; rfl
  rw [hc]
  refine ⟨hl, ?_⟩
  unfold lineS at hl
  split at hl
  · cases hl
  · rename_i l' hl'
    split at hl
    · rw [hl', Option.some.inj hl]
    · cases hl
theorem lineF_in {fs : List Fb} {k : Nat} {n : Int} {acc l : List Int} (h : lineF fs (k + 1) n acc = some l) (h0 : 0 ≤ n) : n ∉ acc ∧ lineF fs k (callerOf fs n) (acc ++ [n]) = some l := by
  unfold lineF at h
  rw [if_neg (by omega)] at h
  split at h
  · cases h
  · rename_i h1; exact ⟨h1, h⟩
theorem lineF_out {fs : List Fb} {k : Nat} {n : Int} {acc l : List Int} (h : lineF fs (k + 1) n acc = some l) (h0 : n < 0) : acc = l := by
  unfold lineF at h
  rw [if_pos h0] at h
  exact Option.some.inj h
def LinePost2 (p : List Fn) (s : St) (w : World) (e : Ending) (w' : World) : Prop :=
  ∃ v, e = .returned (.tuple #[v, .int .i64 (stErrS p s)]) ∧ IntsAt w' v (lineC p s) ∧ Kept w w'
theorem chainLine_err (p : List Fn) (s : St) (vp v : Value) (w : World) (hp : ProgAt w vp p) (hs : StAt w v s) (hk : KindsAt w) (hz : stErrS p s ≠ 0)
    (HCK : Hid (∀ u, ProgAt u vp p → StAt u v s → KindsAt u → Calls Tryz.prog 59 #[vp, v] u fun e w' => e = .returned (.int .i64 (stErrS p s)) ∧ Kept u w')) :
    Calls Tryz.prog 139 #[vp, v] w fun e w' => LinePost2 p s w e w' := by
  have hl : lineC p s = [] := by unfold lineC; rw [if_neg hz]
  unfold LinePost2
  rw [hl]
  have hzb : (stErrS p s != 0) = true := by rw [bne_iff_ne]; exact hz
  generalize stErrS p s = r at *
  have HP := hide hp
  have HK := hide hk
  have HS := hide hs
  obtain ⟨vf, vo, rfl, hF, hO⟩ := hs
  obtain ⟨pFA, qFA, rfl, hfl, _⟩ := hF
  obtain ⟨pOA, qOA, rfl, _, _⟩ := hO
  obtain ⟨oa, cp, rfl, _, _⟩ := hp
  clear hk hl
  go_enter Tryz.func139, Tryz.ntmps139
  go_wp2_with fail
  have ha1 : Kept w (w.alloc (.cells #[.slice pFA s.fibers.length qFA, .int .i64 s.now, .slice pOA s.out.length qOA] 44)) := (Kept.refl w).alloc _
  refine ((unhide HCK) _ ((unhide HP).kept ha1) ((unhide HS).kept ha1) ((unhide HK).kept ha1)).mono ?_
  rintro _ w2 ⟨rfl, hk2⟩
  have H2 := hide (ha1.trans hk2)
  clear hk2 ha1
  go_wp2
  go_ret2
  exact ⟨_, rfl, ⟨none, 0, rfl, by simp, fun i z h => by simp at h⟩, unhide H2⟩
theorem chainLine_go (p : List Fn) (s : St) (vp v : Value) (w : World) (hp : ProgAt w vp p) (hs : StAt w v s) (hk : KindsAt w) (hz : stErrS p s = 0)
    (HCK : Hid (∀ u, ProgAt u vp p → StAt u v s → KindsAt u → Calls Tryz.prog 59 #[vp, v] u fun e w' => e = .returned (.int .i64 (stErrS p s)) ∧ Kept u w')) :
    Calls Tryz.prog 139 #[vp, v] w fun e w' => LinePost2 p s w e w' := by
  obtain ⟨_, hlf⟩ := right_line hz
  obtain ⟨_, hlim, _⟩ := right_parts hz
  obtain ⟨h5, _, _, _, ⟨hnow1, hnow2⟩, hcal⟩ := limS_zero hlim
  obtain ⟨i0, hi0, hz0, hz1, hz2⟩ := info_parts infoInt
  unfold LinePost2
  rw [hz] at HCK ⊢
  generalize lineC p s = l at *
  have HP := hide hp
  have HK := hide hk
  have HS := hide hs
  obtain ⟨vf, vo, rfl, hF, hO⟩ := hs
  obtain ⟨pFA, qFA, rfl, hfl, hFC⟩ := hF
  obtain ⟨pOA, qOA, rfl, _, _⟩ := hO
  obtain ⟨oa, cp, rfl, _, _⟩ := hp
  have HC := hide hFC
  have HCAL := hide hcal
  have HLF := hide hlf
  clear hk hFC hcal hlf hlim hz
  go_enter Tryz.func139, Tryz.ntmps139
  go_wp2_with fail
  have ha1 : Kept w (w.alloc (.cells #[.slice pFA s.fibers.length qFA, .int .i64 s.now, .slice pOA s.out.length qOA] 44)) := (Kept.refl w).alloc _
  refine ((unhide HCK) _ ((unhide HP).kept ha1) ((unhide HS).kept ha1) ((unhide HK).kept ha1)).mono ?_
  rintro _ w0 ⟨rfl, hk2⟩
  have HK0 := hide (ha1.trans hk2)
  have c0 : w0.cell? ⟨w.heap.size, 0, none⟩ = some (.slice pFA s.fibers.length qFA) := hk2.cell (by simp)
  have c1 : w0.cell? ⟨w.heap.size, 1, none⟩ = some (.int .i64 s.now) := hk2.cell (by simp)
  have C0 := hide c0
  clear hk2 ha1
  generalize hN : s.fibers.length = N at *
  have HN := hide hN
  clear hN
  go_wp2
  clear c0 c1
  go_loopw [7, 8] (fun s7 s8 wr => ∃ (n : Int) (acc : List Int) (k : Nat), s8 = .int .i64 n ∧ -1 ≤ n ∧ n < N ∧ k + acc.length = N + 1 ∧ Hid (wr.ownsRow w0.heap.size 3 1 s7 acc.length (ints acc)) ∧ Hid (acc.Nodup) ∧ Hid (∀ z, z ∈ acc → 0 ≤ z ∧ z < N) ∧ Hid (lineF s.fibers k n acc = some l) ∧ Hid (Kept w0 wr)) (fun s7 _ _ => N + 1 - sliceLen s7)
  case atStart => exact ⟨s.now, [], N + 1, rfl, hnow1, hnow2, by simp, World.ownsRow_nil _ _ _ _, List.nodup_nil, (fun z hz => by cases hz), unhide HLF, Kept.refl _⟩
  case round =>
    obtain ⟨n, acc, k, rfl, hn0, hn1, hka, HO, HND, HIN, HL, HK⟩ := hrel
    have hfew := few (unhide HND) (unhide HIN)
    have hfw : acc.length ≤ N := hfew
    have hk1 : ∃ k', k = k' + 1 := ⟨k - 1, by omega⟩
    obtain ⟨k', rfl⟩ := hk1
    obtain ⟨os, cs, rfl, hrow⟩ := row_slice (unhide HO)
    have HR := hide hrow
    clear hrow hfew
    by_cases hpos : 0 ≤ n
    · have hnb : (n != -1) = true := by rw [bne_iff_ne]; omega
      obtain ⟨hna, hst⟩ := lineF_in (unhide HL) hpos
      have hni : n.toNat < s.fibers.length := by have := unhide HN; omega
      obtain ⟨bf, of, vfr, e1, k0, k1, _⟩ := (unhide HC) n.toNat _ (getD_of_lt s.fibers n.toNat Fb.zero hni)
      have hcr := (unhide HCAL) _ (List.mem_of_getElem? (getD_of_lt s.fibers n.toNat Fb.zero hni))
      have hce : (s.fibers.getD n.toNat Fb.zero).caller = callerOf s.fibers n := rfl
      rw [hce] at k1 hcr
      generalize callerOf s.fibers n = m at *
      have HST := hide hst
      have HNA := hide hna
      have K1 := hide k1
      obtain ⟨m1, m2⟩ := hcr
      clear hst hna k0 k1 hce HR HCAL HC
      subst e1
      have hown := unhide HO
      have hbase := (unhide HK).size
      go_wp2_with (at_builtin; refine wpList_append_own _ rfl _ _ 30 rfl w0.heap.size 3 i0 (.int .i64 0) 1 8 Tryz.underlying30 hi0 hz0 hz1 hz2 rfl (by decide) _ _ _ rfl (hown.alloc _) ⟨wr.heap.size, 0, none⟩ 1 1 [.int .i64 n] rfl rfl (new_one _ _ _) (int_one _) (by unfold maxLen; omega) (by omega) (by simp; omega) ?_; intro v' w7 hown' hgrow _; have hk7 : Kept w0 w7 := Below.grown ((unhide HK).alloc _) hgrow (by simp; omega) (row_low hown); have HK7 := hide hk7; have HO7 := hide hown'; have cb := hk7.cell (unhide C0); have cc := hk7.cell ((unhide HK0).cell (unhide K1)); clear hk7 hown' hgrow hown K1)
      go_roundw
      case rel =>
        refine ⟨m, acc ++ [n], k', rfl, m1, m2, by simp; omega, ?_, ?_, ?_, ?_, HK7⟩
        · show World.ownsRow _ _ _ _ _ _ _
          rw [ints_append, List.length_append]
          exact unhide HO7
        · show List.Nodup _
          rw [List.nodup_append]
          refine ⟨unhide HND, by simp, ?_⟩
          intro a ha b hb e
          simp at hb
          subst hb e
          exact (unhide HNA) ha
        · intro z hz
          rcases List.mem_append.1 hz with hz | hz
          · exact (unhide HIN) z hz
          · simp at hz; subst hz; exact ⟨by omega, hn1⟩
        · exact unhide HST
      case measure =>
        obtain ⟨o7, c7, e7, _⟩ := row_slice (unhide HO7)
        subst e7
        simp [sliceLen]
        omega
    · obtain rfl : n = -1 := by omega
      obtain rfl := lineF_out (unhide HL) (by omega)
      have hnb : ((-1 : Int) != -1) = false := rfl
      have hia : IntsAt wr (.slice os acc.length cs) acc := by
        rcases unhide HR with ⟨rfl, h0⟩ | ⟨g, rfl, hc⟩
        · exact ⟨_, cs, rfl, by omega, fun i z hz => by have := (List.getElem?_eq_some_iff.1 hz).1; omega⟩
        · exact ⟨_, cs, rfl, by omega, fun i z hz => ⟨g, 0, rfl, by rw [Nat.zero_add]; exact hc i _ (ints_get hz)⟩⟩
      have HIA := hide hia
      clear hia
      go_wp2
      go_ret2
      exact ⟨_, rfl, unhide HIA, (unhide HK0).trans (unhide HK)⟩
theorem chainLine_any (p : List Fn) (s : St) (vp v : Value) (w : World) (hp : ProgAt w vp p) (hs : StAt w v s) (hk : KindsAt w)
    (HCK : Hid (∀ u, ProgAt u vp p → StAt u v s → KindsAt u → Calls Tryz.prog 59 #[vp, v] u fun e w' => e = .returned (.int .i64 (stErrS p s)) ∧ Kept u w')) :
    Calls Tryz.prog 139 #[vp, v] w fun e w' => LinePost2 p s w e w' := by
  by_cases hz : stErrS p s = 0
  · exact chainLine_go p s vp v w hp hs hk hz HCK
  · exact chainLine_err p s vp v w hp hs hk hz HCK
theorem index_any (l : List Int) (v : Value) (n : Int) (w : World) (h1 : IntsAt w v l) :
    Calls Tryz.prog 197 #[v, .int .i64 n] w fun e w' => ∃ z : Int, e = .returned (.int .i64 z) ∧ decide (0 ≤ z) = decide (n ∈ l) ∧ Kept w w' := by
  obtain ⟨oa, ca, rfl, n1, i1⟩ := h1
  have HI1 := hide i1
  clear i1
  go_enter Tryz.func197, Tryz.ntmps197
  go_wp2
  go_loopw [8] (fun s8 wr => ∃ k : Nat, k ≤ l.length ∧ s8 = .int .i64 k ∧ Hid (∀ i, i < k → l.getD i 0 ≠ n) ∧ Hid (Kept w wr)) (fun s8 _ => l.length - (intOf s8).toNat)
  case atStart => exact ⟨0, Nat.zero_le _, rfl, (fun i hi => by omega), Kept.refl _⟩
  case round =>
    obtain ⟨k, hkm, rfl, HA, HKr⟩ := hrel
    by_cases hlt : k < l.length
    · obtain ⟨b1, o1, e1, c1⟩ := (unhide HI1) k _ (getD_of_lt l k 0 hlt)
      have d1 := (unhide HKr).cell c1
      generalize hz1 : l.getD k 0 = z1 at *
      have Z1 := hide hz1
      subst e1
      clear c1 hz1
      by_cases hz : n = z1
      · have hzb : (n == z1) = true := by rw [beq_iff_eq]; exact hz
        have HZ := hide hz
        clear hz
        go_wp2
        go_ret
        refine ⟨k, rfl, ?_, unhide HKr⟩
        rw [decide_eq_true (by omega), decide_eq_true]
        rw [unhide HZ, ← unhide Z1]
        exact List.mem_of_getElem? (getD_of_lt l k 0 hlt)
      · have hzb : (n == z1) = false := by rw [beq_eq_false_iff_ne]; exact hz
        have HZ := hide hz
        clear hz
        go_wp2
        go_roundw
        case rel =>
          refine ⟨k + 1, by omega, by go_num, ?_, HKr⟩
          intro i hi
          by_cases e : i = k
          · subst e; rw [unhide Z1]; exact fun h => (unhide HZ) h.symm
          · exact (unhide HA) i (by omega)
        case measure => simp [intOf]; omega
    · go_wp2
      go_ret
      refine ⟨-1, rfl, ?_, unhide HKr⟩
      rw [decide_eq_false (by omega), decide_eq_false]
      intro hm
      obtain ⟨i, hi, rfl⟩ := List.getElem_of_mem hm
      exact (unhide HA) i (by omega) (by simp [List.getD, hi])
theorem contains_any (l : List Int) (v : Value) (n : Int) (w : World) (h1 : IntsAt w v l) :
    Calls Tryz.prog 180 #[v, .int .i64 n] w fun e w' => e = .returned (.bool (decide (n ∈ l))) ∧ Kept w w' := by
  have HI := hide (index_any l v n w h1)
  obtain ⟨oa, ca, rfl, n1, i1⟩ := h1
  clear i1
  generalize hr : decide (n ∈ l) = r at *
  clear hr
  go_enter Tryz.func180, Tryz.ntmps180
  go_wp2_with fail
  refine (unhide HI).mono ?_
  rintro _ w2 ⟨z, rfl, hz, hk2⟩
  have HK2 := hide hk2
  clear hk2
  go_wp2
  go_ret
  exact ⟨rfl, unhide HK2⟩
def kindC (p : List Fn) (s : St) (k : Nat) : Int :=
  if (fibAt s k).frames.length = 0 then 0 else if (k : Int) = s.now then 1 else if (k : Int) ∈ lineC p s then 2 else if (frAt s k 0).at_ = 0 then 3 else 4
def kindE (p : List Fn) (s : St) (n : Int) : Int × Int :=
  if stErrS p s = 0 then (if 0 ≤ n ∧ n < s.fibers.length then (kindC p s n.toNat, 0) else (0, 5)) else (0, stErrS p s)
theorem chainKind_any (p : List Fn) (s : St) (n : Int) (vp v : Value) (w : World) (hp : ProgAt w vp p) (hs : StAt w v s) (hk : KindsAt w)
    (HCK : Hid (∀ u, ProgAt u vp p → StAt u v s → KindsAt u → Calls Tryz.prog 59 #[vp, v] u fun e w' => e = .returned (.int .i64 (stErrS p s)) ∧ Kept u w')) :
    Calls Tryz.prog 140 #[vp, v, .int .i64 n] w fun e w' => e = .returned (.tuple #[.int .i64 (kindE p s n).1, .int .i64 (kindE p s n).2]) ∧ Kept w w' := by
  generalize hE : kindE p s n = r
  obtain ⟨r1, r2⟩ := r
  have HE := hide hE
  have HP := hide hp
  have HK := hide hk
  have HS := hide hs
  obtain ⟨vf, vo, rfl, hF, hO⟩ := hs
  obtain ⟨pFA, qFA, rfl, hfl, hFC⟩ := hF
  obtain ⟨pOA, qOA, rfl, _, _⟩ := hO
  obtain ⟨oa, cp, rfl, _, _⟩ := hp
  have HC := hide hFC
  clear hk hFC hE
  go_enter Tryz.func140, Tryz.ntmps140
  go_wp2_with fail
  have ha1 : Kept w (w.alloc (.cells #[.slice pFA s.fibers.length qFA, .int .i64 s.now, .slice pOA s.out.length qOA] 44)) := (Kept.refl w).alloc _
  refine (chainLine_any p s _ _ _ ((unhide HP).kept ha1) ((unhide HS).kept ha1) ((unhide HK).kept ha1) HCK).mono ?_
  unfold LinePost2
  rintro _ w2 ⟨vl, rfl, hia, hk2⟩
  have H2 := hide (ha1.trans hk2)
  obtain ⟨oL, cL, rfl, _, _⟩ := id hia
  have HIA := hide hia
  have m0 : w2.cell? ⟨w.heap.size, 0, none⟩ = some (.slice pFA s.fibers.length qFA) := hk2.cell (by simp)
  have m1 : w2.cell? ⟨w.heap.size, 1, none⟩ = some (.int .i64 s.now) := hk2.cell (by simp)
  generalize w.heap.size = A at m0 m1 ⊢
  clear hia hk2 ha1
  have FIN : ∀ (a b : Int) (u : World) (x : Ending), (r1, r2) = (a, b) → x = .returned (.tuple #[.int .i64 a, .int .i64 b]) → Kept w u → x = .returned (.tuple #[.int .i64 r1, .int .i64 r2]) ∧ Kept w u := by
    intro a b u x h1 h2 h3
    rw [(Prod.mk.inj h1).1, (Prod.mk.inj h1).2]
    exact ⟨h2, h3⟩
  have HFIN := hide FIN
  clear FIN
  by_cases hz : stErrS p s = 0
  · rw [hz]
    have HZ := hide hz
    clear hz
    by_cases hb : 0 ≤ n ∧ n < s.fibers.length
    · have hE : (r1, r2) = (kindC p s n.toNat, 0) := by
        rw [← unhide HE]; unfold kindE; rw [if_pos (unhide HZ), if_pos hb]
      obtain ⟨k, rfl⟩ := Int.eq_ofNat_of_zero_le hb.1
      rw [Int.toNat_natCast] at hE
      have hkm : k < s.fibers.length := by omega
      obtain ⟨bF, oF, vR, e1, kF, _, pR, cR, e2, ⟨hR1, _⟩, hFR⟩ := (unhide HC) k _ (getD_of_lt s.fibers k Fb.zero hkm)
      subst e1 e2
      have hfr : s.fibers.getD k Fb.zero = fibAt s k := rfl
      rw [hfr] at kF hFR hR1
      have kF2 := (unhide H2).cell kF
      have HFR := hide hFR
      have d1 : decide ((k : Int) < 0) = false := by simp
      have d2 : decide ((s.fibers.length : Int) ≤ (k : Int)) = false := by simpa using hkm
      clear hb kF hFR hfr HE HC
      by_cases hq : (fibAt s k).frames.length = 0
      · have hkc : kindC p s k = 0 := by unfold kindC; rw [if_pos hq]
        rw [hkc] at hE
        rw [hq] at kF2
        have HE := hide hE
        clear hE hkc
        generalize s.fibers.length = m at *
        go_wp2
        go_ret2
        exact (unhide HFIN) _ _ _ _ (unhide HE) rfl (unhide H2)
      · have hqb : (((fibAt s k).frames.length : Int) == 0) = false := beq_eq_false_iff_ne.2 (by omega)
        have hkc : kindC p s k = if (k : Int) = s.now then 1 else if (k : Int) ∈ lineC p s then 2 else if (frAt s k 0).at_ = 0 then 3 else 4 := by unfold kindC; rw [if_neg hq]
        obtain ⟨bR, oR, vl, vs, e1, k0, k1, k2, k3, _, _⟩ := (unhide HFR) 0 _ (getD_of_lt (fibAt s k).frames 0 Fr.zero (by omega))
        subst e1
        have hx : (fibAt s k).frames.getD 0 Fr.zero = frAt s k 0 := rfl
        rw [hx] at k1
        have y1 := (unhide H2).cell k1
        have HCN := hide (contains_any (lineC p s) _ (k : Int) w2 (unhide HIA))
        clear k0 k1 k2 k3 hx HFR
        generalize (fibAt s k).frames.length = q at *
        have hq1 : 0 < q := by omega
        generalize s.fibers.length = m at *
        generalize (frAt s k 0).at_ = a at *
        generalize (lineC p s).length = ln at *
        by_cases hnow : (k : Int) = s.now
        · have hnb : ((k : Int) == s.now) = true := by rw [beq_iff_eq]; exact hnow
          rw [if_pos hnow] at hkc
          rw [hkc] at hE
          have HE := hide hE
          clear hE hkc hnow
          generalize s.now = c at *
          go_wp2
          go_ret2
          exact (unhide HFIN) _ _ _ _ (unhide HE) rfl (unhide H2)
        · have hnb : ((k : Int) == s.now) = false := by rw [beq_eq_false_iff_ne]; exact hnow
          rw [if_neg hnow] at hkc
          generalize s.now = c at *
          clear hnow
          by_cases hin : (k : Int) ∈ lineC p s
          · rw [if_pos hin] at hkc
            rw [hkc] at hE
            rw [decide_eq_true hin] at HCN
            have HE := hide hE
            clear hE hkc hin
            go_wp2_with fail
            refine (unhide HCN).mono ?_
            rintro _ w3 ⟨rfl, hk3⟩
            have H3 := hide ((unhide H2).trans hk3)
            clear hk3
            go_wp2
            go_ret2
            exact (unhide HFIN) _ _ _ _ (unhide HE) rfl (unhide H3)
          · rw [if_neg hin] at hkc
            rw [decide_eq_false hin] at HCN
            rw [hkc] at hE
            have HE := hide hE
            clear hkc hin hE
            go_wp2_with fail
            refine (unhide HCN).mono ?_
            rintro _ w3 ⟨rfl, hk3⟩
            have H3 := hide ((unhide H2).trans hk3)
            have y13 := hk3.cell y1
            clear hk3 y1
            by_cases ha : a = 0
            · have hab : (a == 0) = true := by rw [beq_iff_eq]; exact ha
              have hE := unhide HE
              rw [if_pos ha] at hE
              have HE2 := hide hE
              clear ha hE
              go_wp2
              go_ret2
              exact (unhide HFIN) _ _ _ _ (unhide HE2) rfl (unhide H3)
            · have hab : (a == 0) = false := by rw [beq_eq_false_iff_ne]; exact ha
              have hE := unhide HE
              rw [if_neg ha] at hE
              have HE2 := hide hE
              clear ha hE
              go_wp2
              go_ret2
              exact (unhide HFIN) _ _ _ _ (unhide HE2) rfl (unhide H3)
    · have hE : (r1, r2) = (0, 5) := by
        rw [← unhide HE]; unfold kindE; rw [if_pos (unhide HZ), if_neg hb]
      have HE2 := hide hE
      generalize s.fibers.length = m at *
      by_cases h0 : n < 0
      · have d1 : decide (n < 0) = true := decide_eq_true h0
        clear hb hE
        go_wp2
        go_ret2
        exact (unhide HFIN) _ _ _ _ (unhide HE2) rfl (unhide H2)
      · have d1 : decide (n < 0) = false := decide_eq_false h0
        have d2 : decide ((m : Int) ≤ n) = true := decide_eq_true (by omega)
        clear hb hE
        go_wp2
        go_ret2
        exact (unhide HFIN) _ _ _ _ (unhide HE2) rfl (unhide H2)
  · have hzb : (stErrS p s != 0) = true := by rw [bne_iff_ne]; exact hz
    have hE : (r1, r2) = (0, stErrS p s) := by
      rw [← unhide HE]; unfold kindE; rw [if_neg hz]
    have HE2 := hide hE
    generalize stErrS p s = r at *
    clear hE hz
    go_wp2
    go_ret2
    exact (unhide HFIN) _ _ _ _ (unhide HE2) rfl (unhide H2)
theorem line_good (fs : List Fb) (hcal : ∀ b, b ∈ fs → -1 ≤ b.caller ∧ b.caller < fs.length) : ∀ (k : Nat) (n : Int) (acc l : List Int), lineF fs k n acc = some l → -1 ≤ n → n < fs.length → acc.Nodup → (∀ z, z ∈ acc → 0 ≤ z ∧ z < fs.length) →
    (∀ i, i + 1 < acc.length → callerOf fs (acc.getD i 0) = acc.getD (i + 1) 0) → (acc ≠ [] → callerOf fs (acc.getD (acc.length - 1) 0) = n) →
    l.Nodup ∧ (∀ z, z ∈ l → 0 ≤ z ∧ z < fs.length) ∧ (∀ i, i + 1 < l.length → callerOf fs (l.getD i 0) = l.getD (i + 1) 0) ∧ (∀ i, i < acc.length → l.getD i 0 = acc.getD i 0) ∧ acc.length ≤ l.length ∧ (0 ≤ n → acc.length < l.length ∧ l.getD acc.length 0 = n)
  | 0, _, _, _, h, _, _, _, _, _, _ => by cases h
  | k + 1, n, acc, l, h, h1, h2, hnd, hin, hch, hla => by
    by_cases hn : n < 0
    · have := lineF_out h hn
      subst this
      exact ⟨hnd, hin, hch, fun _ _ => rfl, Nat.le_refl _, fun h => by omega⟩
    · obtain ⟨hna, h'⟩ := lineF_in h (by omega)
      have hni : n.toNat < fs.length := by omega
      have hc := hcal _ (List.mem_of_getElem? (getD_of_lt fs n.toNat Fb.zero hni))
      have hg : ∀ i, i < acc.length → (acc ++ [n]).getD i 0 = acc.getD i 0 := fun i hi => by
        simp [List.getD, List.getElem?_append_left hi]
      have hg2 : (acc ++ [n]).getD acc.length 0 = n := by simp [List.getD]
      obtain ⟨q1, q2, q3, q4, q5, _⟩ := line_good fs hcal k (callerOf fs n) (acc ++ [n]) l h' hc.1 hc.2
        (by
          rw [List.nodup_append]
          refine ⟨hnd, by simp, ?_⟩
          intro a ha b hb e
          simp at hb
          subst hb e
          exact hna ha)
        (by
          intro z hz
          rcases List.mem_append.1 hz with hz | hz
          · exact hin z hz
          · simp at hz; subst hz; exact ⟨by omega, h2⟩)
        (by
          intro i hi
          simp only [List.length_append, List.length_cons, List.length_nil] at hi
          rw [hg i (by omega)]
          by_cases e : i + 1 < acc.length
          · rw [hg (i + 1) e]; exact hch i e
          · have e2 : i + 1 = acc.length := by omega
            rw [e2, hg2]
            have e3 : i = acc.length - 1 := by omega
            rw [e3]
            exact hla (fun e => by rw [e] at e2; simp at e2))
        (by
          intro _
          have : (acc ++ [n]).length - 1 = acc.length := by simp
          rw [this, hg2])
      simp only [List.length_append, List.length_cons, List.length_nil] at q4 q5
      refine ⟨q1, q2, q3, fun i hi => ?_, by omega, fun _ => ⟨by omega, ?_⟩⟩
      · rw [q4 i (by omega), hg i hi]
      · rw [q4 acc.length (by omega), hg2]
def below (l : List Int) (n : Nat) : Nat := (l.filter fun z => decide (z < (n : Int))).length
theorem below_step : ∀ (l : List Int), l.Nodup → ∀ n : Nat, below l (n + 1) = below l n + (if (n : Int) ∈ l then 1 else 0)
  | [], _, n => rfl
  | a :: l, hnd, n => by
    have ih := below_step l (List.nodup_cons.1 hnd).2 n
    have ha := (List.nodup_cons.1 hnd).1
    unfold below at ih ⊢
    by_cases e : a = (n : Int)
    · subst e
      rw [if_neg ha] at ih
      rw [if_pos (by simp)]
      rw [List.filter_cons_of_pos (by simp; omega), List.filter_cons_of_neg (by simp)]
      simp only [List.length_cons]
      omega
    · have hm : ((n : Int) ∈ a :: l) ↔ (n : Int) ∈ l := by simp [Ne.symm e]
      by_cases h1 : a < (n : Int)
      · rw [List.filter_cons_of_pos (by simp; omega), List.filter_cons_of_pos (by simp; omega)]
        simp only [List.length_cons, hm]
        omega
      · rw [List.filter_cons_of_neg (by simp; omega), List.filter_cons_of_neg (by simp; omega)]
        simp only [hm]
        exact ih
theorem below_zero {l : List Int} (h : ∀ z, z ∈ l → 0 ≤ z) : below l 0 = 0 := by
  unfold below
  rw [List.length_eq_zero_iff, List.filter_eq_nil_iff]
  intro z hz
  have := h z hz
  simp; omega
theorem below_all {l : List Int} {N : Nat} (h : ∀ z, z ∈ l → z < N) : below l N = l.length := by
  unfold below
  rw [List.filter_eq_self.2]
  intro z hz
  have := h z hz
  simp; omega
structure Line (s : St) (l : List Int) : Prop where
  nodup : l.Nodup
  inside : ∀ z, z ∈ l → 0 ≤ z ∧ z < s.fibers.length
  chain : ∀ i, i + 1 < l.length → callerOf s.fibers (l.getD i 0) = l.getD (i + 1) 0
  none : s.now < 0 → l = []
  first : 0 ≤ s.now → 0 < l.length ∧ l.getD 0 0 = s.now ∧ l.getD (l.length - 1) 0 = 0
theorem line_of {p : List Fn} {s : St} (h : stErrS p s = 0) : Line s (lineC p s) := by
  obtain ⟨hls, hlf⟩ := right_line h
  obtain ⟨_, hlim, _⟩ := right_parts h
  obtain ⟨_, _, _, _, ⟨hn1, hn2⟩, hcal⟩ := limS_zero hlim
  obtain ⟨q1, q2, q3, _, _, q6⟩ := line_good s.fibers hcal _ _ _ _ hlf hn1 hn2 List.nodup_nil (fun z hz => by cases hz) (fun i hi => by simp at hi) (fun h => absurd rfl h)
  refine ⟨q1, q2, q3, fun hn => (lineF_out hlf hn).symm, fun hn => ?_⟩
  obtain ⟨h1, h2⟩ := q6 hn
  refine ⟨h1, h2, ?_⟩
  unfold lineS at hls
  rw [hlf] at hls
  simp only at hls
  split at hls
  · rename_i hc
    rcases hc with hc | hc
    · rw [hc] at h1; simp at h1
    · rw [List.getLast?_eq_getElem?] at hc
      simp [List.getD, hc]
  · cases hls
open Go.RowKit Go.Maps
def placesD (H : List Int) : Nat → DataW Unit
  | 0 => .map []
  | k + 1 => if 0 ≤ H.getD k 0 then (placesD H k).put (.int .i64 k) (.lit (.int .i64 (placeS H k))) else placesD H k
theorem key_is (a : Int) : WideAt.IsKeyLit (Lit.int .i64 a) := trivial
theorem key_ne {a b : Nat} (h : a ≠ b) : Lit.int .i64 (a : Int) ≠ Lit.int .i64 (b : Int) := by
  intro e
  simp only [Lit.int.injEq, true_and] at e
  omega
theorem placesD_tidy (H : List Int) : ∀ n, Tidy (placesD H n)
  | 0 => tidy_empty
  | n + 1 => by
    unfold placesD
    split
    · exact (placesD_tidy H n).put (key_is _) _
    · exact placesD_tidy H n
theorem placesD_has (H : List Int) (j : Nat) : ∀ n, Maps.has (placesD H n) (.int .i64 j) = decide (j < n ∧ 0 ≤ H.getD j 0)
  | 0 => by simp [placesD, Maps.has]
  | n + 1 => by
    have ih := placesD_has H j n
    unfold placesD
    by_cases hj : j = n
    · subst hj
      by_cases hs : 0 ≤ H.getD j 0
      · rw [if_pos hs, has_put_same (placesD_tidy H j).isMap (key_is _)]; exact (decide_eq_true ⟨Nat.lt_succ_self _, hs⟩).symm
      · rw [if_neg hs, ih]; simp only [hs, and_false]
    · have e : decide (j < n + 1 ∧ 0 ≤ H.getD j 0) = decide (j < n ∧ 0 ≤ H.getD j 0) := by
        apply decide_eq_decide.2
        omega
      rw [e]
      split
      · rw [has_put_other (key_ne hj), ih]
      · exact ih
theorem placesD_at (H : List Int) (j : Nat) (hs : 0 ≤ H.getD j 0) (z : DataW Unit) : ∀ n, j < n → (placesD H n).atKey (.int .i64 j) z = .lit (.int .i64 (placeS H j))
  | 0, h => by omega
  | n + 1, h => by
    unfold placesD
    by_cases hj : j = n
    · subst hj
      rw [if_pos hs, atKey_put_same (placesD_tidy H j).isMap (key_is _)]
    · have ih := placesD_at H j hs z n (by omega)
      split
      · rw [atKey_put_other (key_ne hj), ih]
      · exact ih
theorem placesD_size (H : List Int) : ∀ n, Maps.size (placesD H n) = placeS H n
  | 0 => rfl
  | n + 1 => by
    have ih := placesD_size H n
    have hh := placesD_has H n n
    unfold placesD placeS
    split
    · rw [size_put (placesD_tidy H n), hh, ih]; simp
    · exact ih
theorem lawInt : Keyed Tryz.prog 3 := int_keyed Tryz.underlying3
theorem zeroInt (w : World) : (zeroValue 3).run Tryz.prog w = .ok (.int .i64 0) w := by kernel_rfl
theorem make_hint (n : Nat) (u : World) : (Instr.makeMap 239 (some (.int .i64 n))).run Tryz.prog u = .ok (.map (some u.heap.size)) (u.alloc (.map #[] 0)) := by
  simp [Instr.makeMap, run_underlying Tryz.underlying239, asInt, asIntOf, Result.andThen]
def MapAt (w : World) (B : Nat) (H : List Int) : Prop := w.ownsMap Tryz.prog 3 (plainElem (H := Unit) Tryz.prog 3) B H.length (placesD H H.length)
theorem MapAt.kept {w w' : World} {B : Nat} {H : List Int} (h : MapAt w B H) (k : Kept w w') : MapAt w' B H := by
  obtain ⟨es, clock, hb, F, hs, hD⟩ := h
  exact ⟨es, clock, lays_kept k hb, F, hs, hD⟩
theorem IntsAt.opened {w : World} {v : Value} {l : List Int} (h : IntsAt w v l) (h0 : 0 < l.length) : ∃ b o cap, v = .slice (some ⟨b, o, none⟩) l.length cap ∧ ∀ j, j < l.length → w.cell? ⟨b, o + j, none⟩ = some (.int .i64 (l.getD j 0)) := by
  obtain ⟨oa, cap, rfl, _, hi⟩ := h
  obtain ⟨b, o, rfl, _⟩ := hi 0 _ (getD_of_lt l 0 0 h0)
  refine ⟨b, o, cap, rfl, fun j hj => ?_⟩
  obtain ⟨b', o', e, hc⟩ := hi j _ (getD_of_lt l j 0 hj)
  obtain ⟨rfl, rfl⟩ := (by simpa using e : b = b' ∧ o = o')
  exact hc
theorem places_any (H : List Int) (b o m cap : Nat) (w : World) (hm : m = H.length) (hm24 : m ≤ 24) (hc : ∀ j, j < m → w.cell? ⟨b, o + j, none⟩ = some (.int .i64 (H.getD j 0))) :
    Calls Tryz.prog 207 #[.slice (some ⟨b, o, none⟩) m cap] w fun e w' => e = .returned (.map (some w.heap.size)) ∧ MapAt w' w.heap.size H ∧ Kept w w' := by
  have hmm := make_hint m
  have HM := hide hm
  have HC := hide hc
  clear hm hc
  go_enter Tryz.func207, Tryz.ntmps207
  go_wp2
  go_loopw [11] (fun s wr => ∃ k : Nat, k ≤ m ∧ s = .int .i64 k ∧ Hid (wr.ownsMap Tryz.prog 3 (plainElem (H := Unit) Tryz.prog 3) w.heap.size k (placesD H k)) ∧ Hid (Kept w wr)) (fun s _ => m - (intOf s).toNat)
  case atStart => exact ⟨0, Nat.zero_le _, rfl, World.ownsMap_made _ _ _ _, (Kept.refl _).alloc _⟩
  case round =>
    obtain ⟨k, hkm, rfl, HO, HKr⟩ := hrel
    by_cases hlt : k < m
    · have ck := (unhide HKr).cell ((unhide HC) k hlt)
      by_cases hs : 0 ≤ H.getD k 0
      · have hsz : (Maps.size (placesD H k) : Int) = (placeS H k : Nat) := by rw [placesD_size]
        have hle := placeS_le H k
        have hD : placesD H (k + 1) = (placesD H k).put (.int .i64 k) (.lit (.int .i64 (placeS H k))) := by
          conv => lhs; unfold placesD
          rw [if_pos hs]
        have hwf : (Lit.int .i64 (Maps.size (placesD H k) : Int)).wf = true := WalkArith.wf_i64 (by omega)
        have hown := unhide HO
        generalize H.getD k 0 = z at ck hs
        have HD := hide hD
        have HSZ := hide hsz
        clear hD hle
        go_wp2_with (first
          | (at_len; refine wpList_len_own _ rfl _ 239 rfl 3 3 Tryz.underlying239 _ w.heap.size k _ rfl hown ?_)
          | (at_mapUpdate; refine wpList_mapUpdate_own _ rfl _ _ _ 239 rfl 3 3 lawInt Tryz.underlying239 _ w.heap.size k _ rfl hown (by unfold maxLen; omega) _ _ _ rfl rfl (keyOf_int_mk Tryz.underlying3 (WalkArith.wf_i64 (by omega))) _ [] (plainElem_int Tryz.underlying3 hwf) ?_; intro w1 hown1 hgrow1)
          | go_in)
        have HO1 := hide hown1
        have HK1 := hide (Below.grown (unhide HKr) hgrow1 (unhide HKr).size (fun j hj => by cases hj; exact Nat.le_refl _))
        clear hown1 hgrow1 hown
        go_roundw
        case rel => exact ⟨k + 1, by omega, by go_num, by rw [unhide HD, ← unhide HSZ]; exact HO1, HK1⟩
        case measure => simp [intOf]; omega
      · have hD : placesD H (k + 1) = placesD H k := by
          conv => lhs; unfold placesD
          rw [if_neg hs]
        generalize H.getD k 0 = z at ck hs
        have HD := hide hD
        clear hD
        go_wp2
        go_roundw
        case rel => exact ⟨k + 1, by omega, by go_num, by rw [unhide HD]; exact (unhide HO).mono (Nat.le_succ _), HKr⟩
        case measure => simp [intOf]; omega
    · have hke : k = H.length := by have := unhide HM; omega
      have HE := hide hke
      clear hke
      go_wp2
      go_ret
      refine ⟨rfl, ?_, unhide HKr⟩
      have := unhide HO
      rw [unhide HE] at this
      exact this
end Go.Proofs.YtokhibfenccijaaGreatDoor
