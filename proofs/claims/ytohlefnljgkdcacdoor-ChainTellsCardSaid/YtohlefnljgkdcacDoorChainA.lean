/-
  The contracts of chain.Line, chain.Kind, of slices.Contains, and of the reference's LineOf, KindOf.
-/
import Derived.Test.YtohlefnljgkdcacDoorSR16
import Derived.Test.YtohlefnljgkdcacDoorSR28
import Derived.Test.YtohlefnljgkdcacDoorSR02
namespace Go.Proofs.YtohlefnljgkdcacDoor
open Go.RowKit

def lineC (p : List Fn) (s : St) : List Int := if stErrS p s = 0 then (lineS s).getD [] else []
theorem right_line {p : List Fn} {s : St} (h : stErrS p s = 0) : lineS s = some (lineC p s) ∧ lineF s.fibers (s.fibers.length + 1) s.now [] = some (lineC p s) := by
  obtain ⟨l, hl, _⟩ := right_fiber h
  have hc : lineC p s = l := by unfold lineC; rw [if_pos h, hl]; rfl
  rw [hc]
  refine ⟨hl, ?_⟩
  unfold lineS at hl
  split at hl
  · cases hl
  · rename_i l' hl'
    split at hl
    · rw [hl', Option.some.inj hl]
    · cases hl
theorem lineF_in {fs : List Fb} {k : Nat} {n : Int} {acc l : List Int} (h : lineF fs (k + 1) n acc = some l) (h0 : 0 ≤ n) : n ∉ acc ∧ lineF fs k (callerOf fs n) (acc ++ [n]) = some l := by
  unfold lineF at h
  rw [if_neg (by omega)] at h
  split at h
  · cases h
  · rename_i h1; exact ⟨h1, h⟩
theorem lineF_out {fs : List Fb} {k : Nat} {n : Int} {acc l : List Int} (h : lineF fs (k + 1) n acc = some l) (h0 : n < 0) : acc = l := by
  unfold lineF at h
  rw [if_pos h0] at h
  exact Option.some.inj h

def LinePost2 (p : List Fn) (s : St) (w : World) (e : Ending) (w' : World) : Prop :=
  ∃ v, e = .returned (.tuple #[v, .int .i64 (stErrS p s)]) ∧ IntsAt w' v (lineC p s) ∧ Kept w w'

set_option maxRecDepth 100000 in
set_option maxHeartbeats 2000000 in
theorem chainLine_err (p : List Fn) (s : St) (vp v : Value) (w : World) (hp : ProgAt w vp p) (hs : StAt w v s) (hk : KindsAt w) (hz : stErrS p s ≠ 0)
    (HCK : Hid (∀ u, ProgAt u vp p → StAt u v s → KindsAt u → Calls Tryd.prog 6 #[vp, v] u fun e w' => e = .returned (.int .i64 (stErrS p s)) ∧ Kept u w')) :
    Calls Tryd.prog 10 #[vp, v] w fun e w' => LinePost2 p s w e w' := by
  have hl : lineC p s = [] := by unfold lineC; rw [if_neg hz]
  unfold LinePost2
  rw [hl]
  have hzb : (stErrS p s != 0) = true := by rw [bne_iff_ne]; exact hz
  generalize stErrS p s = r at *
  have HP := hide hp
  have HK := hide hk
  have HS := hide hs
  obtain ⟨vf, vo, rfl, hF, hO⟩ := hs
  obtain ⟨pFA, qFA, rfl, hfl, _⟩ := hF
  obtain ⟨pOA, qOA, rfl, _, _⟩ := hO
  obtain ⟨oa, cp, rfl, _, _⟩ := hp
  clear hk hl
  go_enter Tryd.func10, Tryd.ntmps10
  go_wp2_with fail
  have ha1 : Kept w (w.alloc (.cells #[.slice pFA s.fibers.length qFA, .int .i64 s.now, .slice pOA s.out.length qOA] 26)) := (Kept.refl w).alloc _
  refine ((unhide HCK) _ ((unhide HP).kept ha1) ((unhide HS).kept ha1) ((unhide HK).kept ha1)).mono ?_
  rintro _ w2 ⟨rfl, hk2⟩
  have H2 := hide (ha1.trans hk2)
  clear hk2 ha1
  go_wp2
  go_ret2
  exact ⟨_, rfl, ⟨none, 0, rfl, by simp, fun i z h => by simp at h⟩, unhide H2⟩

set_option maxRecDepth 100000 in
set_option maxHeartbeats 2000000 in
theorem chainLine_go (p : List Fn) (s : St) (vp v : Value) (w : World) (hp : ProgAt w vp p) (hs : StAt w v s) (hk : KindsAt w) (hz : stErrS p s = 0)
    (HCK : Hid (∀ u, ProgAt u vp p → StAt u v s → KindsAt u → Calls Tryd.prog 6 #[vp, v] u fun e w' => e = .returned (.int .i64 (stErrS p s)) ∧ Kept u w')) :
    Calls Tryd.prog 10 #[vp, v] w fun e w' => LinePost2 p s w e w' := by
  obtain ⟨_, hlf⟩ := right_line hz
  obtain ⟨_, hlim, _⟩ := right_parts hz
  obtain ⟨h5, _, _, _, ⟨hnow1, hnow2⟩, hcal⟩ := limS_zero hlim
  obtain ⟨i0, hi0, hz0, hz1, hz2⟩ := info_parts infoInt
  unfold LinePost2
  rw [hz] at HCK ⊢
  generalize lineC p s = l at *
  have HP := hide hp
  have HK := hide hk
  have HS := hide hs
  obtain ⟨vf, vo, rfl, hF, hO⟩ := hs
  obtain ⟨pFA, qFA, rfl, hfl, hFC⟩ := hF
  obtain ⟨pOA, qOA, rfl, _, _⟩ := hO
  obtain ⟨oa, cp, rfl, _, _⟩ := hp
  have HC := hide hFC
  have HCAL := hide hcal
  have HLF := hide hlf
  clear hk hFC hcal hlf hlim hz
  go_enter Tryd.func10, Tryd.ntmps10
  go_wp2_with fail
  have ha1 : Kept w (w.alloc (.cells #[.slice pFA s.fibers.length qFA, .int .i64 s.now, .slice pOA s.out.length qOA] 26)) := (Kept.refl w).alloc _
  refine ((unhide HCK) _ ((unhide HP).kept ha1) ((unhide HS).kept ha1) ((unhide HK).kept ha1)).mono ?_
  rintro _ w0 ⟨rfl, hk2⟩
  have HK0 := hide (ha1.trans hk2)
  have c0 : w0.cell? ⟨w.heap.size, 0, none⟩ = some (.slice pFA s.fibers.length qFA) := hk2.cell (by simp)
  have c1 : w0.cell? ⟨w.heap.size, 1, none⟩ = some (.int .i64 s.now) := hk2.cell (by simp)
  have C0 := hide c0
  clear hk2 ha1
  generalize hN : s.fibers.length = N at *
  have HN := hide hN
  clear hN
  go_wp2
  clear c0 c1
  go_loopw [7, 8] (fun s7 s8 wr => ∃ (n : Int) (acc : List Int) (k : Nat), s8 = .int .i64 n ∧ -1 ≤ n ∧ n < N ∧ k + acc.length = N + 1 ∧ Hid (wr.ownsRow w0.heap.size 3 1 s7 acc.length (ints acc)) ∧ Hid (acc.Nodup) ∧ Hid (∀ z, z ∈ acc → 0 ≤ z ∧ z < N) ∧ Hid (lineF s.fibers k n acc = some l) ∧ Hid (Kept w0 wr)) (fun s7 _ _ => N + 1 - sliceLen s7)
  case atStart => exact ⟨s.now, [], N + 1, rfl, hnow1, hnow2, by simp, World.ownsRow_nil _ _ _ _, List.nodup_nil, (fun z hz => by cases hz), unhide HLF, Kept.refl _⟩
  case round =>
    obtain ⟨n, acc, k, rfl, hn0, hn1, hka, HO, HND, HIN, HL, HK⟩ := hrel
    have hfew := few (unhide HND) (unhide HIN)
    have hfw : acc.length ≤ N := hfew
    have hk1 : ∃ k', k = k' + 1 := ⟨k - 1, by omega⟩
    obtain ⟨k', rfl⟩ := hk1
    obtain ⟨os, cs, rfl, hrow⟩ := row_slice (unhide HO)
    have HR := hide hrow
    clear hrow hfew
    by_cases hpos : 0 ≤ n
    · have hnb : (n != -1) = true := by rw [bne_iff_ne]; omega
      obtain ⟨hna, hst⟩ := lineF_in (unhide HL) hpos
      have hni : n.toNat < s.fibers.length := by have := unhide HN; omega
      obtain ⟨bf, of, vfr, e1, k0, k1, _⟩ := (unhide HC) n.toNat _ (getD_of_lt s.fibers n.toNat Fb.zero hni)
      have hcr := (unhide HCAL) _ (List.mem_of_getElem? (getD_of_lt s.fibers n.toNat Fb.zero hni))
      have hce : (s.fibers.getD n.toNat Fb.zero).caller = callerOf s.fibers n := rfl
      rw [hce] at k1 hcr
      generalize callerOf s.fibers n = m at *
      have HST := hide hst
      have HNA := hide hna
      have K1 := hide k1
      obtain ⟨m1, m2⟩ := hcr
      clear hst hna k0 k1 hce HR HCAL HC
      subst e1
      have hown := unhide HO
      have hbase := (unhide HK).size
      go_wp2_with (at_builtin; refine wpList_append_own _ rfl _ _ 24 rfl w0.heap.size 3 i0 (.int .i64 0) 1 8 Tryd.underlying24 hi0 hz0 hz1 hz2 rfl (by decide) _ _ _ rfl (hown.alloc _) ⟨wr.heap.size, 0, none⟩ 1 1 [.int .i64 n] rfl rfl (new_one _ _ _) (int_one _) (by unfold maxLen; omega) (by omega) (by simp; omega) ?_; intro v' w7 hown' hgrow _; have hk7 : Kept w0 w7 := Below.grown ((unhide HK).alloc _) hgrow (by simp; omega) (row_low hown); have HK7 := hide hk7; have HO7 := hide hown'; have cb := hk7.cell (unhide C0); have cc := hk7.cell ((unhide HK0).cell (unhide K1)); clear hk7 hown' hgrow hown K1)
      go_roundw
      case rel =>
        refine ⟨m, acc ++ [n], k', rfl, m1, m2, by simp; omega, ?_, ?_, ?_, ?_, HK7⟩
        · show World.ownsRow _ _ _ _ _ _ _
          rw [ints_append, List.length_append]
          exact unhide HO7
        · show List.Nodup _
          rw [List.nodup_append]
          refine ⟨unhide HND, by simp, ?_⟩
          intro a ha b hb e
          simp at hb
          subst hb e
          exact (unhide HNA) ha
        · intro z hz
          rcases List.mem_append.1 hz with hz | hz
          · exact (unhide HIN) z hz
          · simp at hz; subst hz; exact ⟨by omega, hn1⟩
        · exact unhide HST
      case measure =>
        obtain ⟨o7, c7, e7, _⟩ := row_slice (unhide HO7)
        subst e7
        simp [sliceLen]
        omega
    · obtain rfl : n = -1 := by omega
      obtain rfl := lineF_out (unhide HL) (by omega)
      have hnb : ((-1 : Int) != -1) = false := rfl
      have hia : IntsAt wr (.slice os acc.length cs) acc := by
        rcases unhide HR with ⟨rfl, h0⟩ | ⟨g, rfl, hc⟩
        · exact ⟨_, cs, rfl, by omega, fun i z hz => by have := (List.getElem?_eq_some_iff.1 hz).1; omega⟩
        · exact ⟨_, cs, rfl, by omega, fun i z hz => ⟨g, 0, rfl, by rw [Nat.zero_add]; exact hc i _ (ints_get hz)⟩⟩
      have HIA := hide hia
      clear hia
      go_wp2
      go_ret2
      exact ⟨_, rfl, unhide HIA, (unhide HK0).trans (unhide HK)⟩

theorem chainLine_any (p : List Fn) (s : St) (vp v : Value) (w : World) (hp : ProgAt w vp p) (hs : StAt w v s) (hk : KindsAt w)
    (HCK : Hid (∀ u, ProgAt u vp p → StAt u v s → KindsAt u → Calls Tryd.prog 6 #[vp, v] u fun e w' => e = .returned (.int .i64 (stErrS p s)) ∧ Kept u w')) :
    Calls Tryd.prog 10 #[vp, v] w fun e w' => LinePost2 p s w e w' := by
  by_cases hz : stErrS p s = 0
  · exact chainLine_go p s vp v w hp hs hk hz HCK
  · exact chainLine_err p s vp v w hp hs hk hz HCK

set_option maxHeartbeats 1000000 in
theorem index_any (l : List Int) (v : Value) (n : Int) (w : World) (h1 : IntsAt w v l) :
    Calls Tryd.prog 42 #[v, .int .i64 n] w fun e w' => ∃ z : Int, e = .returned (.int .i64 z) ∧ decide (0 ≤ z) = decide (n ∈ l) ∧ Kept w w' := by
  obtain ⟨oa, ca, rfl, n1, i1⟩ := h1
  have HI1 := hide i1
  clear i1
  go_enter Tryd.func42, Tryd.ntmps42
  go_wp2
  go_loopw [8] (fun s8 wr => ∃ k : Nat, k ≤ l.length ∧ s8 = .int .i64 k ∧ Hid (∀ i, i < k → l.getD i 0 ≠ n) ∧ Hid (Kept w wr)) (fun s8 _ => l.length - (intOf s8).toNat)
  case atStart => exact ⟨0, Nat.zero_le _, rfl, (fun i hi => by omega), Kept.refl _⟩
  case round =>
    obtain ⟨k, hkm, rfl, HA, HKr⟩ := hrel
    by_cases hlt : k < l.length
    · obtain ⟨b1, o1, e1, c1⟩ := (unhide HI1) k _ (getD_of_lt l k 0 hlt)
      have d1 := (unhide HKr).cell c1
      generalize hz1 : l.getD k 0 = z1 at *
      have Z1 := hide hz1
      subst e1
      clear c1 hz1
      by_cases hz : n = z1
      · have hzb : (n == z1) = true := by rw [beq_iff_eq]; exact hz
        have HZ := hide hz
        clear hz
        go_wp2
        go_ret
        refine ⟨k, rfl, ?_, unhide HKr⟩
        rw [decide_eq_true (by omega), decide_eq_true]
        rw [unhide HZ, ← unhide Z1]
        exact List.mem_of_getElem? (getD_of_lt l k 0 hlt)
      · have hzb : (n == z1) = false := by rw [beq_eq_false_iff_ne]; exact hz
        have HZ := hide hz
        clear hz
        go_wp2
        go_roundw
        case rel =>
          refine ⟨k + 1, by omega, by go_num, ?_, HKr⟩
          intro i hi
          by_cases e : i = k
          · subst e; rw [unhide Z1]; exact fun h => (unhide HZ) h.symm
          · exact (unhide HA) i (by omega)
        case measure => simp [intOf]; omega
    · go_wp2
      go_ret
      refine ⟨-1, rfl, ?_, unhide HKr⟩
      rw [decide_eq_false (by omega), decide_eq_false]
      intro hm
      obtain ⟨i, hi, rfl⟩ := List.getElem_of_mem hm
      exact (unhide HA) i (by omega) (by simp [List.getD, hi])

set_option maxHeartbeats 1000000 in
theorem contains_any (l : List Int) (v : Value) (n : Int) (w : World) (h1 : IntsAt w v l) :
    Calls Tryd.prog 25 #[v, .int .i64 n] w fun e w' => e = .returned (.bool (decide (n ∈ l))) ∧ Kept w w' := by
  have HI := hide (index_any l v n w h1)
  obtain ⟨oa, ca, rfl, n1, i1⟩ := h1
  clear i1
  generalize hr : decide (n ∈ l) = r at *
  clear hr
  go_enter Tryd.func25, Tryd.ntmps25
  go_wp2_with fail
  refine (unhide HI).mono ?_
  rintro _ w2 ⟨z, rfl, hz, hk2⟩
  have HK2 := hide hk2
  clear hk2
  go_wp2
  go_ret
  exact ⟨rfl, unhide HK2⟩
end Go.Proofs.YtohlefnljgkdcacDoor
