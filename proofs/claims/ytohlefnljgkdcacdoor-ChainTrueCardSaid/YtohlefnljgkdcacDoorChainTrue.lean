/-
  The statement ChainTrue (E2, F1): it returns true, whatever it is handed, and its arguments read as before. Condition: op.kinds starts as the text lays it (the card ties it).
-/
import Derived.Test.YtohlefnljgkdcacDoorCards
import Derived.Test.YtohlefnljgkdcacDoorTie
import Derived.Test.YtohlefnljgkdcacDoorChainC
import Derived.Test.YtohlefnljgkdcacDoorChainP
import Derived.Test.YtohlefnljgkdcacDoorSR03
import Derived.Test.YtohlefnljgkdcacDoorSR12
import Derived.Deep.DeepHandedRow
namespace Go.Proofs.YtohlefnljgkdcacDoor
open Go.RowKit Go.ChangeShapes Go.WideShapes Go.ChangeAt
open List (setIfInBounds_toArray set_cons_zero set_cons_succ)

theorem take_next {l : List Int} {i : Nat} {n z : Int} (hi : i < l.length) (hz : l.getD i 0 = z) : ∀ b : Bool, b = decide (n ∈ l.take i) → (b = true → true = decide (n ∈ l.take (i + 1))) ∧ (b = false → (z == n) = decide (n ∈ l.take (i + 1))) := by
  intro b hb
  have h1 : l.take (i + 1) = l.take i ++ [z] := by rw [List.take_add_one, getD_of_lt l i 0 hi, hz]; rfl
  rw [h1]
  refine ⟨fun h => ?_, fun h => ?_⟩
  · rw [h] at hb
    exact (decide_eq_true (List.mem_append_left _ (of_decide_eq_true hb.symm))).symm
  · rw [h] at hb
    have hn := of_decide_eq_false hb.symm
    by_cases e : z = n
    · subst e; simp
    · rw [beq_eq_false_iff_ne.2 e, decide_eq_false]
      intro hm
      rcases List.mem_append.1 hm with hm | hm
      · exact hn hm
      · simp at hm; exact e hm.symm

set_option maxRecDepth 100000 in
set_option maxHeartbeats 8000000 in
theorem chainTrue_walk (p : List Fn) (vp : Value) (s : St) (v : Value) (w : World) (hp : ProgAt w vp p) (hs : StAt w v s) (hk : KindsAt w) :
    Calls Tryd.prog 5 #[vp, v] w fun e w' => e = .returned (.bool true) ∧ Kept w w' := by
  have HP := hide hp
  have HK := hide hk
  have HS := hide hs
  obtain ⟨vf, vo, rfl, hF, hO⟩ := hs
  obtain ⟨pFA, qFA, rfl, hfl, hFC⟩ := hF
  obtain ⟨pOA, qOA, rfl, _, _⟩ := hO
  obtain ⟨oa, cp, rfl, _, _⟩ := hp
  have HCK := hide (fun u h1 h2 h3 => stCheck_any p s (.slice oa p.length cp) (.agg #[.slice pFA s.fibers.length qFA, .int .i64 s.now, .slice pOA s.out.length qOA]) u h1 h2 h3)
  have HFC := hide hFC
  clear hk hFC
  go_enter Tryd.func5, Tryd.ntmps5
  go_wp2_with fail
  generalize hw1 : w.alloc (.cells #[.slice pFA s.fibers.length qFA, .int .i64 s.now, .slice pOA s.out.length qOA] 26) = w1
  have L1 : w1.heap[w.heap.size]? = some (.cells #[.slice pFA s.fibers.length qFA, .int .i64 s.now, .slice pOA s.out.length qOA] 26) := by rw [← hw1]; exact lays_new rfl
  have hk1 : Kept w w1 := by rw [← hw1]; exact (Kept.refl w).alloc _
  generalize w.heap.size = A at L1 ⊢
  have H1 := hide hk1
  have HL := hide (chainLine_any p s _ _ w1 ((unhide HP).kept hk1) ((unhide HS).kept hk1) ((unhide HK).kept hk1) HCK)
  have HL1 := hide L1
  clear hw1 hk1 L1
  refine (unhide HL).mono ?_
  unfold LinePost2
  rintro _ w2 ⟨lv, rfl, hia, hk2⟩
  obtain ⟨oI, cI, rfl, _, hcI⟩ := hia
  have H2 := hide ((unhide H1).trans hk2)
  have L2 := lays_kept hk2 (unhide HL1)
  clear hk2 HL HL1 H1
  by_cases hz : stErrS p s = 0
  rotate_left
  · have hzb : (stErrS p s != 0) = true := by rw [bne_iff_ne]; exact hz
    clear hz hcI HCK
    generalize stErrS p s = r at *
    go_wp2_with fail
    refine (chainBegun_any _ ((unhide HK).kept (unhide H2))).mono ?_
    rintro _ w7 ⟨rfl, hk7⟩
    have H7 := hide ((unhide H2).trans hk7)
    clear hk7
    go_wp2
    go_ret
    exact ⟨rfl, unhide H7⟩
  have HZ := hide hz
  have HLI := hide (line_of hz)
  obtain ⟨_, hlim, _⟩ := right_parts hz
  obtain ⟨h5, _, _, _, ⟨hn1, hn2⟩, hcal⟩ := limS_zero hlim
  have hlen5 : (lineC p s).length ≤ s.fibers.length := few (unhide HLI).nodup (unhide HLI).inside
  have HLC : Hid (∀ i, i < (lineC p s).length → ∃ bL oL, oI = some ⟨bL, oL, none⟩ ∧ w2.cell? ⟨bL, oL + i, none⟩ = some (.int .i64 ((lineC p s).getD i 0))) := hide (fun i hi => hcI i _ (getD_of_lt (lineC p s) i 0 hi))
  have HKI := hide (fun k hk => kind_in (p := p) (s := s) hz (k := k) hk)
  rw [hz]
  generalize hN : s.fibers.length = N at *
  have HN := hide hN
  generalize hLN : (lineC p s).length = ln at *
  have HLN := hide hLN
  have HL2 := hide L2
  have HNW := hide (⟨hn1, hn2⟩ : -1 ≤ s.now ∧ s.now < N)
  clear hz hlim hcal hcI hN hLN L2 hn1 hn2
  go_wp2
  go_loopw [7, 8, 9] (fun s7 s8 s9 wr => ∃ n R W : Nat, n ≤ N ∧ s9 = .int .i64 n ∧ s7 = .int .i64 R ∧ s8 = .int .i64 W ∧ Hid (R = if 0 ≤ s.now ∧ s.now < n then 1 else 0) ∧ Hid (R + W = below (lineC p s) n) ∧ Hid (Kept w2 wr)) (fun _ _ s9 _ => N - (intOf s9).toNat)
  case atStart => exact ⟨0, 0, 0, Nat.zero_le _, rfl, rfl, rfl, hide (by rw [if_neg (by omega)]), hide (by rw [below_zero (fun z hz => ((unhide HLI).inside z hz).1)]), Kept.refl _⟩
  case round =>
    obtain ⟨n, R, W, hnN, rfl, rfl, rfl, HR, HRW, HKr⟩ := hrel
    have Lr := lays_kept (unhide HKr) (unhide HL2)
    have m0 := cell_lays Lr 0
    have m1 := cell_lays Lr 1
    have m2 := cell_lays Lr 2
    have hR1 : R ≤ 1 := by have := unhide HR; split at this <;> omega
    have hW5 : W ≤ 5 := by have := unhide HRW; have := below_le (lineC p s) n; have := unhide HLN; omega
    clear Lr
    by_cases hlt : n < N
    · have hE : kindE p s (n : Int) = (kindC p s n, 0) := by
        unfold kindE
        rw [if_pos (unhide HZ), if_pos (by have := unhide HN; omega), Int.toNat_natCast]
      have HW := hide ((unhide H2).trans (unhide HKr))
      have hcall := chainKind_any p s (n : Int) _ _ wr ((unhide HP).kept (unhide HW)) ((unhide HS).kept (unhide HW)) ((unhide HK).kept (unhide HW)) HCK
      rw [hE] at hcall
      have hki := (unhide HKI) n hlt
      have HCALL := hide hcall
      clear hE hcall
      generalize kindC p s n = g at *
      have HKG := hide hki
      clear hki
      go_wp2_with fail
      refine (unhide HCALL).mono ?_
      rintro _ w4 ⟨rfl, hk4⟩
      have O4 := hide hk4
      have H24 := hide ((unhide HKr).trans hk4)
      clear hk4 m0 m1 m2 HCALL
      have hki := unhide HKG
      by_cases hin : (n : Int) ∈ lineC p s
      · have hg := hki.1 hin
        have HIN := hide hin
        by_cases hnow : (n : Int) = s.now
        · rw [if_pos hnow] at hg
          subst hg
          have HNOW := hide hnow
          clear hki hin hnow HKG
          go_wp2
          go_loopw [12, 13] (fun s12 s13 wq => ∃ (i : Nat) (b : Bool), i ≤ ln ∧ s13 = .int .i64 i ∧ s12 = .bool b ∧ Hid (b = decide ((n : Int) ∈ (lineC p s).take i)) ∧ Hid (w4 = wq)) (fun _ s13 _ => ln - (intOf s13).toNat)
          case atStart => exact ⟨0, false, Nat.zero_le _, rfl, rfl, hide (by simp), hide rfl⟩
          case round =>
            obtain ⟨i, b, hil, rfl, rfl, HBI, HQ⟩ := hrel
            have hwq := unhide HQ
            subst hwq
            clear HQ
            by_cases hlt2 : i < ln
            · obtain ⟨bL, oL', e1, hcz⟩ := (unhide HLC) i hlt2
              have hcz4 := (unhide H24).cell hcz
              subst e1
              clear hcz
              generalize hzz : (lineC p s).getD i 0 = z at *
              have HZZ := hide (take_next (n := (n : Int)) (by rw [unhide HLN]; exact hlt2) hzz)
              clear hzz
              cases b with
              | true =>
                go_wp2
                go_roundw
                case rel => exact ⟨i + 1, true, by omega, by go_num, rfl, hide ((unhide HZZ) true (unhide HBI) |>.1 rfl), trivial⟩
                case measure => simp [intOf]; omega
              | false =>
                have HN := hide ((unhide HZZ) false (unhide HBI) |>.2 rfl)
                go_wp2
                go_roundw
                case rel => exact ⟨i + 1, (z == (n : Int)), by omega, by go_num, rfl, HN, trivial⟩
                case measure => simp [intOf]; omega
            · have hb : b = true := by
                rw [unhide HBI, List.take_of_length_le (by rw [unhide HLN]; omega)]
                exact decide_eq_true (unhide HIN)
              subst hb
              clear HBI
              go_wp2
              go_roundw
              case rel => exact ⟨n + 1, R + 1, W + 0, by omega, by go_num, by go_num, by go_num, hide (by have h1 := unhide HR; have h2 := unhide HNOW; split at h1 <;> split <;> omega), hide (by rw [below_step _ (unhide HLI).nodup, if_pos (unhide HIN)]; have := unhide HRW; omega), hide ((unhide HKr).trans (unhide O4))⟩
              case measure => simp [intOf]; omega
        · rw [if_neg hnow] at hg
          subst hg
          have HNOW := hide hnow
          clear hki hin hnow HKG
          go_wp2
          go_loopw [12, 13] (fun s12 s13 wq => ∃ (i : Nat) (b : Bool), i ≤ ln ∧ s13 = .int .i64 i ∧ s12 = .bool b ∧ Hid (b = decide ((n : Int) ∈ (lineC p s).take i)) ∧ Hid (w4 = wq)) (fun _ s13 _ => ln - (intOf s13).toNat)
          case atStart => exact ⟨0, false, Nat.zero_le _, rfl, rfl, hide (by simp), hide rfl⟩
          case round =>
            obtain ⟨i, b, hil, rfl, rfl, HBI, HQ⟩ := hrel
            have hwq := unhide HQ
            subst hwq
            clear HQ
            by_cases hlt2 : i < ln
            · obtain ⟨bL, oL', e1, hcz⟩ := (unhide HLC) i hlt2
              have hcz4 := (unhide H24).cell hcz
              subst e1
              clear hcz
              generalize hzz : (lineC p s).getD i 0 = z at *
              have HZZ := hide (take_next (n := (n : Int)) (by rw [unhide HLN]; exact hlt2) hzz)
              clear hzz
              cases b with
              | true =>
                go_wp2
                go_roundw
                case rel => exact ⟨i + 1, true, by omega, by go_num, rfl, hide ((unhide HZZ) true (unhide HBI) |>.1 rfl), trivial⟩
                case measure => simp [intOf]; omega
              | false =>
                have HN := hide ((unhide HZZ) false (unhide HBI) |>.2 rfl)
                go_wp2
                go_roundw
                case rel => exact ⟨i + 1, (z == (n : Int)), by omega, by go_num, rfl, HN, trivial⟩
                case measure => simp [intOf]; omega
            · have hb : b = true := by
                rw [unhide HBI, List.take_of_length_le (by rw [unhide HLN]; omega)]
                exact decide_eq_true (unhide HIN)
              subst hb
              clear HBI
              go_wp2
              go_roundw
              case rel => exact ⟨n + 1, R + 0, W + 1, by omega, by go_num, by go_num, by go_num, hide (by have h1 := unhide HR; have h2 := unhide HNOW; split at h1 <;> split <;> omega), hide (by rw [below_step _ (unhide HLI).nodup, if_pos (unhide HIN)]; have := unhide HRW; omega), hide ((unhide HKr).trans (unhide O4))⟩
              case measure => simp [intOf]; omega
      · obtain ⟨hnow, hg⟩ := hki.2 hin
        have HIN := hide hin
        have HNOW := hide hnow
        clear hki hin hnow HKG
        have f1 : (g == 1) = false := by rcases hg with rfl | rfl | rfl <;> rfl
        have f2 : (g == 2) = false := by rcases hg with rfl | rfl | rfl <;> rfl
        have f3 : decide (g < 0) = false := by rcases hg with rfl | rfl | rfl <;> rfl
        have f4 : decide (4 < g) = false := by rcases hg with rfl | rfl | rfl <;> rfl
        clear hg
        go_wp2
        go_loopw [12, 13] (fun s12 s13 wq => ∃ (i : Nat) (b : Bool), i ≤ ln ∧ s13 = .int .i64 i ∧ s12 = .bool b ∧ Hid (b = decide ((n : Int) ∈ (lineC p s).take i)) ∧ Hid (w4 = wq)) (fun _ s13 _ => ln - (intOf s13).toNat)
        case atStart => exact ⟨0, false, Nat.zero_le _, rfl, rfl, hide (by simp), hide rfl⟩
        case round =>
          obtain ⟨i, b, hil, rfl, rfl, HBI, HQ⟩ := hrel
          have hwq := unhide HQ
          subst hwq
          clear HQ
          by_cases hlt2 : i < ln
          · obtain ⟨bL, oL', e1, hcz⟩ := (unhide HLC) i hlt2
            have hcz4 := (unhide H24).cell hcz
            subst e1
            clear hcz
            generalize hzz : (lineC p s).getD i 0 = z at *
            have HZZ := hide (take_next (n := (n : Int)) (by rw [unhide HLN]; exact hlt2) hzz)
            clear hzz
            cases b with
            | true =>
              go_wp2
              go_roundw
              case rel => exact ⟨i + 1, true, by omega, by go_num, rfl, hide ((unhide HZZ) true (unhide HBI) |>.1 rfl), trivial⟩
              case measure => simp [intOf]; omega
            | false =>
              have HN := hide ((unhide HZZ) false (unhide HBI) |>.2 rfl)
              go_wp2
              go_roundw
              case rel => exact ⟨i + 1, (z == (n : Int)), by omega, by go_num, rfl, HN, trivial⟩
              case measure => simp [intOf]; omega
          · have hb : b = false := by
              rw [unhide HBI, List.take_of_length_le (by rw [unhide HLN]; omega)]
              exact decide_eq_false (unhide HIN)
            subst hb
            clear HBI
            go_wp2
            go_roundw
            case rel => exact ⟨n + 1, R + 0, W + 0, by omega, by go_num, by go_num, by go_num, hide (by have h1 := unhide HR; have h2 := unhide HNOW; split at h1 <;> split <;> omega), hide (by rw [below_step _ (unhide HLI).nodup, if_neg (unhide HIN)]; have := unhide HRW; omega), hide ((unhide HKr).trans (unhide O4))⟩
            case measure => simp [intOf]; omega
    obtain rfl : n = N := by omega
    have hsum : R + W = ln := by rw [unhide HRW, below_all (fun z hz => by have := ((unhide HLI).inside z hz).2; have := unhide HN; omega)]; exact unhide HLN
    have HSUM := hide hsum
    clear hsum
    go_wp2
    clear m0 m1 m2
    go_loopw [14] (fun s14 wq => ∃ i : Nat, i ≤ ln ∧ s14 = .int .i64 i ∧ Hid (Kept w2 wq)) (fun s14 _ => ln - (intOf s14).toNat)
    case atStart => exact ⟨0, Nat.zero_le _, rfl, HKr⟩
    case round =>
      obtain ⟨i, hil, rfl, HKq⟩ := hrel
      have Lq := lays_kept (unhide HKq) (unhide HL2)
      have m0 := cell_lays Lq 0
      have m1 := cell_lays Lq 1
      clear Lq
      have hw1 : IntKind.i64.wrap ((i : Int) + 1) = (i : Int) + 1 := by rw [IntKind.wrap_i64]; omega
      by_cases hlt3 : i + 1 < ln
      · obtain ⟨bL, oL', e1, hc1⟩ := (unhide HLC) i (by omega)
        obtain ⟨bL2, oL2, e2, hc2⟩ := (unhide HLC) (i + 1) hlt3
        rw [e1] at e2
        obtain ⟨rfl, rfl⟩ : bL = bL2 ∧ oL' = oL2 := by simpa using e2
        have hch := (unhide HLI).chain i (by rw [unhide HLN]; exact hlt3)
        have hins := (unhide HLI).inside _ (List.mem_of_getElem? (getD_of_lt (lineC p s) i 0 (by rw [unhide HLN]; omega)))
        generalize (lineC p s).getD i 0 = z at hc1 hch hins
        generalize (lineC p s).getD (i + 1) 0 = y at hc2 hch
        obtain ⟨a, rfl⟩ := Int.eq_ofNat_of_zero_le hins.1
        have haN : a < s.fibers.length := by omega
        obtain ⟨bF, oF, vR, e3, _, kC, _⟩ := (unhide HFC) a _ (getD_of_lt s.fibers a Fb.zero haN)
        have hce : (s.fibers.getD a Fb.zero).caller = callerOf s.fibers (a : Int) := by unfold callerOf; rw [Int.toNat_natCast]
        rw [hce, hch] at kC
        subst e1 e3
        have x1 := (unhide HKq).cell hc1
        have x2 := (unhide HKq).cell hc2
        have x3 := ((unhide H2).trans (unhide HKq)).cell kC
        have hN' := unhide HN
        have d1 : decide ((a : Int) < 0) = false := by simp
        have d2 : decide ((n : Int) ≤ (a : Int)) = false := by simp; omega
        have d3 : decide (n ≤ a) = false := decide_eq_false (by omega)
        have d4 : (y != y) = false := by simp
        have hlan : a < n := by omega
        clear hc1 hc2 kC hce hch hins haN e2 hN'
        go_wp2
        go_quiet (fail)
        go_wp2
        go_roundw
        case rel => exact ⟨i + 1, by omega, by go_num, hide ((unhide HKq).drewN _)⟩
        case measure => simp [intOf]; omega
      have HWq := hide ((unhide H2).trans (unhide HKq))
      by_cases hneg : s.now < 0
      · have hl0 : ln = 0 := by rw [← unhide HLN, (unhide HLI).none hneg]; rfl
        have hRW := unhide HSUM
        obtain rfl : R = 0 := by omega
        obtain rfl : W = 0 := by omega
        subst hl0
        have dn : decide (s.now < 0) = true := decide_eq_true hneg
        clear hRW
        generalize s.now = c at *
        go_wp2_with fail
        refine (chainBegun_any _ ((unhide HK).kept (unhide HWq))).mono ?_
        rintro _ w7 ⟨rfl, hk7⟩
        have H7 := hide ((unhide HWq).trans hk7)
        clear hk7
        go_wp2
        go_ret
        exact ⟨by simp, unhide H7⟩
      obtain ⟨hf1, hf2, hf3⟩ := (unhide HLI).first (by omega)
      rw [unhide HLN] at hf1 hf3
      have hRW := unhide HSUM
      have hR := unhide HR
      rw [if_pos (by have := unhide HNW; omega)] at hR
      subst hR
      obtain ⟨bL, oL', e1, hc1⟩ := (unhide HLC) 0 hf1
      obtain ⟨bL2, oL2, e2, hc2⟩ := (unhide HLC) (ln - 1) (by omega)
      rw [e1] at e2
      obtain ⟨rfl, rfl⟩ : bL = bL2 ∧ oL' = oL2 := by simpa using e2
      rw [hf2] at hc1
      rw [hf3] at hc2
      subst e1
      obtain ⟨t, rfl⟩ : ∃ t, ln = t + 1 := ⟨ln - 1, by omega⟩
      obtain rfl : W = t := by omega
      have x1 := (unhide HKq).cell hc1
      have x2 := (unhide HKq).cell hc2
      simp only [Nat.add_sub_cancel, Nat.add_zero] at x1 x2
      have dn : decide (s.now < 0) = false := decide_eq_false hneg
      clear hRW hf1 hf2 hf3 hc1 hc2 e2
      generalize s.now = c at *
      go_upto_region 29 with fail
      have HYS : Hid (∀ u, Kept wr u → u.cell? ⟨A, 1, none⟩ = some (.int .i64 c) ∧ u.cell? ⟨bL, oL', none⟩ = some (.int .i64 c) ∧ u.cell? ⟨bL, oL' + W, none⟩ = some (.int .i64 0)) := hide (fun u hu => ⟨hu.cell m1, hu.cell x1, hu.cell x2⟩)
      have hb1 : (0 : Int) < ((W + 1 : Nat) : Int) := by omega
      have hb2 : (0 : Int) < (W : Int) + 1 := by omega
      have hv1 : IntKind.i64.wrap (((W + 1 : Nat) : Int) - 1) = (W : Int) := by rw [IntKind.wrap_i64]; omega
      have hv2 : IntKind.i64.wrap ((W : Int) + 1 - 1) = (W : Int) := by rw [IntKind.wrap_i64]; omega
      have hv3 : (W : Int) + 1 - 1 = (W : Int) := by omega
      have hv6 : IntKind.i64.wrap (W : Int) = (W : Int) := by rw [IntKind.wrap_i64]; omega
      have hv7 : (W : Int) < (W : Int) + 1 := by omega
      have hv4 : (c == c) = true := by simp
      have hv5 : ((W : Int) == (W : Int)) = true := by simp
      clear m0 m1 x1 x2 hw1
      refine wp_region_held_drew (S := (fun u => u.cell? ⟨A, 1, none⟩ = some (.int .i64 c) ∧ u.cell? ⟨bL, oL', none⟩ = some (.int .i64 c) ∧ u.cell? ⟨bL, oL' + W, none⟩ = some (.int .i64 0))) (by kernel_rfl) ((unhide HYS) _ (Kept.drew (Kept.refl _))) (fun hHeld => ?_)
      refine take_one (i := 0) rfl (by kernel_rfl) (fun K hK => ?_)
      go_simp
      refine (chainBegun_any _ ((unhide HK).kept ((unhide HWq).trans (Kept.drew (Kept.refl _))))).mono ?_
      rintro _ n1 ⟨rfl, hq1⟩
      have j1 : Kept wr n1 := Kept.trans (Kept.drew (Kept.refl wr)) hq1
      refine hK.out _ _ ((unhide HYS) _ j1) (fun hHeld => ?_)
      clear hK K
      try simp only [Act.put, setIfInBounds_toArray, set_cons_zero, set_cons_succ]
      refine take_yes (i := 1) (v := ?_) rfl (by kernel_rfl) (by kernel_rfl) (by kernel_rfl) (fun _ _ _ h => h) (by rfl) (fun u hSu => ?_) hHeld ?_; rotate_left
      · ((try dsimp only at hSu); go_simp) <;> with_reducible rfl
      try simp only [Act.put, setIfInBounds_toArray, set_cons_zero, set_cons_succ]
      refine take_yes (i := 2) (v := ?_) rfl (by kernel_rfl) (by kernel_rfl) (by kernel_rfl) (fun _ _ _ h => h) (by rfl) (fun u hSu => ?_) hHeld ?_; rotate_left
      · ((try dsimp only at hSu); go_simp) <;> with_reducible rfl
      try simp only [Act.put, setIfInBounds_toArray, set_cons_zero, set_cons_succ]
      refine take_yes (i := 3) (v := ?_) rfl (by kernel_rfl) (by kernel_rfl) (by kernel_rfl) (fun _ _ _ h => h) (by rfl) (fun u hSu => ?_) hHeld ?_; rotate_left
      · ((try dsimp only at hSu); go_simp) <;> with_reducible rfl
      try simp only [Act.put, setIfInBounds_toArray, set_cons_zero, set_cons_succ]
      refine take_yes (i := 4) (v := ?_) rfl (by kernel_rfl) (by kernel_rfl) (by kernel_rfl) (fun _ _ _ h => h) (by rfl) (fun u hSu => ?_) hHeld ?_; rotate_left
      · ((try dsimp only at hSu); go_simp) <;> with_reducible rfl
      try simp only [Act.put, setIfInBounds_toArray, set_cons_zero, set_cons_succ]
      refine take_yes (i := 5) (v := ?_) rfl (by kernel_rfl) (by kernel_rfl) (by kernel_rfl) (fun _ _ _ h => h) (by rfl) (fun u hSu => ?_) hHeld ?_; rotate_left
      · ((try dsimp only at hSu); go_simp) <;> with_reducible rfl
      try simp only [Act.put, setIfInBounds_toArray, set_cons_zero, set_cons_succ]
      refine take_yes (i := 6) (v := ?_) rfl (by kernel_rfl) (by kernel_rfl) (by kernel_rfl) (fun _ _ _ h => h) (by rfl) (fun u hSu => ?_) hHeld ?_; rotate_left
      · ((try dsimp only at hSu); go_simp) <;> with_reducible rfl
      try simp only [Act.put, setIfInBounds_toArray, set_cons_zero, set_cons_succ]
      refine take_yes (i := 7) (v := ?_) rfl (by kernel_rfl) (by kernel_rfl) (by kernel_rfl) (fun _ _ _ h => h) (by rfl) (fun u hSu => ?_) hHeld ?_; rotate_left
      · ((try dsimp only at hSu); go_simp) <;> with_reducible rfl
      try simp only [Act.put, setIfInBounds_toArray, set_cons_zero, set_cons_succ]
      refine take_yes (i := 8) (v := ?_) rfl (by kernel_rfl) (by kernel_rfl) (by kernel_rfl) (fun _ _ _ h => h) (by rfl) (fun u hSu => ?_) hHeld ?_; rotate_left
      · ((try dsimp only at hSu); go_simp) <;> with_reducible rfl
      try simp only [Act.put, setIfInBounds_toArray, set_cons_zero, set_cons_succ]
      refine take_yes (i := 9) (v := ?_) rfl (by kernel_rfl) (by kernel_rfl) (by kernel_rfl) (fun _ _ _ h => h) (by rfl) (fun u hSu => ?_) hHeld ?_; rotate_left
      · ((try dsimp only at hSu); go_simp) <;> with_reducible rfl
      try simp only [Act.put, setIfInBounds_toArray, set_cons_zero, set_cons_succ]
      refine take_yes (i := 10) (v := ?_) rfl (by kernel_rfl) (by kernel_rfl) (by kernel_rfl) (fun _ _ _ h => h) (by rfl) (fun u hSu => ?_) hHeld ?_; rotate_left
      · ((try dsimp only at hSu); go_simp) <;> with_reducible rfl
      try simp only [Act.put, setIfInBounds_toArray, set_cons_zero, set_cons_succ]
      refine take_yes (i := 11) (v := ?_) rfl (by kernel_rfl) (by kernel_rfl) (by kernel_rfl) (fun _ _ _ h => h) (by rfl) (fun u hSu => ?_) hHeld ?_; rotate_left
      · ((try dsimp only at hSu); go_simp) <;> with_reducible rfl
      try simp only [Act.put, setIfInBounds_toArray, set_cons_zero, set_cons_succ]
      refine take_yes (i := 12) (v := ?_) rfl (by kernel_rfl) (by kernel_rfl) (by kernel_rfl) (fun _ _ _ h => h) (by rfl) (fun u hSu => ?_) hHeld ?_; rotate_left
      · ((try dsimp only at hSu); go_simp) <;> with_reducible rfl
      try simp only [Act.put, setIfInBounds_toArray, set_cons_zero, set_cons_succ]
      refine take_yes (i := 13) (v := ?_) rfl (by kernel_rfl) (by kernel_rfl) (by kernel_rfl) (fun _ _ _ h => h) (by rfl) (fun u hSu => ?_) hHeld ?_; rotate_left
      · ((try dsimp only at hSu); go_simp) <;> with_reducible rfl
      try simp only [Act.put, setIfInBounds_toArray, set_cons_zero, set_cons_succ]
      refine take_yes (i := 14) (v := ?_) rfl (by kernel_rfl) (by kernel_rfl) (by kernel_rfl) (fun _ _ _ h => h) (by rfl) (fun u hSu => ?_) hHeld ?_; rotate_left
      · ((try dsimp only at hSu); go_simp) <;> with_reducible rfl
      try simp only [Act.put, setIfInBounds_toArray, set_cons_zero, set_cons_succ]
      refine take_yes (i := 15) (v := ?_) rfl (by kernel_rfl) (by kernel_rfl) (by kernel_rfl) (fun _ _ _ h => h) (by rfl) (fun u hSu => ?_) hHeld ?_; rotate_left
      · ((try dsimp only at hSu); go_simp) <;> with_reducible rfl
      try simp only [Act.put, setIfInBounds_toArray, set_cons_zero, set_cons_succ]
      refine take_yes (i := 16) (v := ?_) rfl (by kernel_rfl) (by kernel_rfl) (by kernel_rfl) (fun _ _ _ h => h) (by rfl) (fun u hSu => ?_) hHeld ?_; rotate_left
      · ((try dsimp only at hSu); go_simp) <;> with_reducible rfl
      try simp only [Act.put, setIfInBounds_toArray, set_cons_zero, set_cons_succ]
      refine take_yes (i := 17) (v := ?_) rfl (by kernel_rfl) (by kernel_rfl) (by kernel_rfl) (fun _ _ _ h => h) (by rfl) (fun u hSu => ?_) hHeld ?_; rotate_left
      · ((try dsimp only at hSu); go_simp) <;> with_reducible rfl
      try simp only [Act.put, setIfInBounds_toArray, set_cons_zero, set_cons_succ]
      refine take_yes (i := 18) (v := ?_) rfl (by kernel_rfl) (by kernel_rfl) (by kernel_rfl) (fun _ _ _ h => h) (by rfl) (fun u hSu => ?_) hHeld ?_; rotate_left
      · ((try dsimp only at hSu); go_simp) <;> with_reducible rfl
      try simp only [Act.put, setIfInBounds_toArray, set_cons_zero, set_cons_succ]
      refine take_yes (i := 19) (v := ?_) rfl (by kernel_rfl) (by kernel_rfl) (by kernel_rfl) (fun _ _ _ h => h) (by rfl) (fun u hSu => ?_) hHeld ?_; rotate_left
      · ((try dsimp only at hSu); go_simp) <;> with_reducible rfl
      try simp only [Act.put, setIfInBounds_toArray, set_cons_zero, set_cons_succ]
      refine take_yes (i := 20) (v := ?_) rfl (by kernel_rfl) (by kernel_rfl) (by kernel_rfl) (fun _ _ _ h => h) (by rfl) (fun u hSu => ?_) hHeld ?_; rotate_left
      · ((try dsimp only at hSu); go_simp) <;> with_reducible rfl
      try simp only [Act.put, setIfInBounds_toArray, set_cons_zero, set_cons_succ]
      refine take_yes (i := 21) (v := ?_) rfl (by kernel_rfl) (by kernel_rfl) (by kernel_rfl) (fun _ _ _ h => h) (by rfl) (fun u hSu => ?_) hHeld ?_; rotate_left
      · ((try dsimp only at hSu); go_simp) <;> with_reducible rfl
      try simp only [Act.put, setIfInBounds_toArray, set_cons_zero, set_cons_succ]
      refine take_yes (i := 22) (v := ?_) rfl (by kernel_rfl) (by kernel_rfl) (by kernel_rfl) (fun _ _ _ h => h) (by rfl) (fun u hSu => ?_) hHeld ?_; rotate_left
      · ((try dsimp only at hSu); go_simp) <;> with_reducible rfl
      try simp only [Act.put, setIfInBounds_toArray, set_cons_zero, set_cons_succ]
      refine take_yes (i := 23) (v := ?_) rfl (by kernel_rfl) (by kernel_rfl) (by kernel_rfl) (fun _ _ _ h => h) (by rfl) (fun u hSu => ?_) hHeld ?_; rotate_left
      · ((try dsimp only at hSu); go_simp) <;> with_reducible rfl
      try simp only [Act.put, setIfInBounds_toArray, set_cons_zero, set_cons_succ]
      refine take_yes (i := 24) (v := ?_) rfl (by kernel_rfl) (by kernel_rfl) (by kernel_rfl) (fun _ _ _ h => h) (by rfl) (fun u hSu => ?_) hHeld ?_; rotate_left
      · ((try dsimp only at hSu); go_simp) <;> with_reducible rfl
      try simp only [Act.put, setIfInBounds_toArray, set_cons_zero, set_cons_succ]
      refine take_yes (i := 25) (v := ?_) rfl (by kernel_rfl) (by kernel_rfl) (by kernel_rfl) (fun _ _ _ h => h) (by rfl) (fun u hSu => ?_) hHeld ?_; rotate_left
      · ((try dsimp only at hSu); go_simp) <;> with_reducible rfl
      try simp only [Act.put, setIfInBounds_toArray, set_cons_zero, set_cons_succ]
      refine take_yes (i := 26) (v := ?_) rfl (by kernel_rfl) (by kernel_rfl) (by kernel_rfl) (fun _ _ _ h => h) (by rfl) (fun u hSu => ?_) hHeld ?_; rotate_left
      · ((try dsimp only at hSu); go_simp) <;> with_reducible rfl
      try simp only [Act.put, setIfInBounds_toArray, set_cons_zero, set_cons_succ]
      refine take_yes (i := 27) (v := ?_) rfl (by kernel_rfl) (by kernel_rfl) (by kernel_rfl) (fun _ _ _ h => h) (by rfl) (fun u hSu => ?_) hHeld ?_; rotate_left
      · ((try dsimp only at hSu); go_simp) <;> with_reducible rfl
      try simp only [Act.put, setIfInBounds_toArray, set_cons_zero, set_cons_succ]
      refine take_yes (i := 28) (v := ?_) rfl (by kernel_rfl) (by kernel_rfl) (by kernel_rfl) (fun _ _ _ h => h) (by rfl) (fun u hSu => ?_) hHeld ?_; rotate_left
      · ((try dsimp only at hSu); go_simp) <;> with_reducible rfl
      try simp only [Act.put, setIfInBounds_toArray, set_cons_zero, set_cons_succ]
      refine take_yes (i := 29) (v := ?_) rfl (by kernel_rfl) (by kernel_rfl) (by kernel_rfl) (fun _ _ _ h => h) (by rfl) (fun u hSu => ?_) hHeld ?_; rotate_left
      · ((try dsimp only at hSu); go_simp) <;> with_reducible rfl
      try simp only [Act.put, setIfInBounds_toArray, set_cons_zero, set_cons_succ]
      refine take_yes (i := 30) (v := ?_) rfl (by kernel_rfl) (by kernel_rfl) (by kernel_rfl) (fun _ _ _ h => h) (by rfl) (fun u hSu => ?_) hHeld ?_; rotate_left
      · ((try dsimp only at hSu); go_simp) <;> with_reducible rfl
      try simp only [Act.put, setIfInBounds_toArray, set_cons_zero, set_cons_succ]
      refine take_yes (i := 31) (v := ?_) rfl (by kernel_rfl) (by kernel_rfl) (by kernel_rfl) (fun _ _ _ h => h) (by rfl) (fun u hSu => ?_) hHeld ?_; rotate_left
      · ((try dsimp only at hSu); go_simp) <;> with_reducible rfl
      try simp only [Act.put, setIfInBounds_toArray, set_cons_zero, set_cons_succ]
      refine take_yes (i := 32) (v := ?_) rfl (by kernel_rfl) (by kernel_rfl) (by kernel_rfl) (fun _ _ _ h => h) (by rfl) (fun u hSu => ?_) hHeld ?_; rotate_left
      · ((try dsimp only at hSu); go_simp) <;> with_reducible rfl
      try simp only [Act.put, setIfInBounds_toArray, set_cons_zero, set_cons_succ]
      refine take_yes (i := 33) (v := ?_) rfl (by kernel_rfl) (by kernel_rfl) (by kernel_rfl) (fun _ _ _ h => h) (by rfl) (fun u hSu => ?_) hHeld ?_; rotate_left
      · ((try dsimp only at hSu); go_simp) <;> with_reducible rfl
      try simp only [Act.put, setIfInBounds_toArray, set_cons_zero, set_cons_succ]
      refine take_yes (i := 34) (v := ?_) rfl (by kernel_rfl) (by kernel_rfl) (by kernel_rfl) (fun _ _ _ h => h) (by rfl) (fun u hSu => ?_) hHeld ?_; rotate_left
      · ((try dsimp only at hSu); go_simp) <;> with_reducible rfl
      try simp only [Act.put, setIfInBounds_toArray, set_cons_zero, set_cons_succ]
      refine wpAnyH_done (by kernel_rfl) ?_ _
      have HFIN := hide ((unhide HWq).trans j1)
      clear hHeld
      go_wp2
      go_ret
      exact ⟨by simp, unhide HFIN⟩

set_option maxRecDepth 100000 in
theorem chainTrue_contract (H : Type) (enc : TypeId × Value → H) (W : World) (base : Nat) (args : Array Value) (ds gs : List (DataW H)) (before : List MemPlace)
    (hval : ∀ (j : Nat) t v, Tryd.f5.params[j]? = some t → args[j]? = some v → Value.okWide Tryd.prog W .any base t v)
    (hW : DataW.Whole enc Tryd.prog Tryd.f5.params.toList Rows.chainTrueSpec.vars false W args.toList ds gs before)
    (hsz : (DataW.weightsEach Tryd.prog (Tryd.f5.params.toList ++ (OpenSpec.ofChange Rows.chainTrueSpec).bare.plain.varTypes Tryd.prog) (ds ++ gs)).all (· ≤ reachBytes) = true)
    (hL : laidMetH Tryd.prog Rows.chainTrueRow.laid W) :
    Calls Tryd.prog 5 args W fun e W' => ∃ v, e = .returned v ∧ Rows.chainTrueSpec.post enc Tryd.prog Tryd.f5 false true false false W args v W' := by
  have hW' := hW
  obtain ⟨p, q, hA0, hV, rfl, hfz, hnd⟩ := hW
  have hA : DataW.TrodAll enc Tryd.prog W 0 (fun _ => true) true Tryd.f5.params.toList args.toList ds p := hA0
  have hlt : ∀ x ∈ p, x.block < W.heap.size := fun x hx => by simpa using hW'.lt x (by simp [hx])
  have hA1 := hA
  rw [Tryd.params5] at hA hval hsz
  obtain ⟨v0, vs0, d0, ds0, p0, q0, hargs, rfl, rfl, h0, r0⟩ := trodAll_cons hA
  obtain ⟨v1, vs1, d1, ds1, p1, q1, rfl, rfl, rfl, h1, r1⟩ := trodAll_cons r0
  obtain ⟨rfl, rfl, rfl⟩ := trodAll_nil r1
  obtain rfl : args = #[v0, v1] := by cases args; simp_all
  obtain ⟨rfl, rfl⟩ := trodVars_none hV
  obtain ⟨pl0, hpl0⟩ : ∃ pl, ProgAt W v0 pl := by
    obtain ⟨oa, len, cap, rfl⟩ := okWide_slice Tryd.underlying22 (hval 0 22 v0 rfl rfl)
    obtain ⟨fuel, hf⟩ := h0
    exact open_prog hf (fun n hn => of_decide_eq_true (List.all_eq_true.1 hsz n (DataW.weights_mem_each (j := 0) rfl rfl n hn)))
  obtain ⟨st1, hst1⟩ : ∃ st, StAt W v1 st := by
    obtain ⟨fuel, hf⟩ := h1
    obtain ⟨cs, rfl, hc⟩ := okWide_struct Tryd.underlying26 (hval 1 26 v1 rfl rfl)
    have := open_state hf (fun n hn => of_decide_eq_true (List.all_eq_true.1 hsz n (DataW.weights_mem_each (j := 1) rfl rfl n hn)))
    cases cs
    simpa [Value.cells] using this
  refine (chainTrue_walk pl0 v0 st1 v1 W hpl0 hst1 (kinds_of_laid hL)).mono fun e W' ⟨he, hg⟩ => ?_
  subst he
  refine ⟨_, rfl, _, _, _, [], _, [], hW', trodAll_mk1 (shut_bool Tryd.underlying4 _), trodAll_below hg ?_ hA1 hlt, rfl, hg.frame _, fun h => by cases h⟩
  intro t ht
  rw [Tryd.params5] at ht
  simp only [List.mem_cons, List.not_mem_nil, or_false] at ht
  rcases ht with rfl | rfl
  · exact ⟨by kernel_rfl, of_decide_eq_true (by kernel_rfl)⟩
  · exact ⟨by kernel_rfl, of_decide_eq_true (by kernel_rfl)⟩

set_option maxRecDepth 100000 in
theorem chainTrue_laid_met (os : Os) : laidMet Tryd.prog Rows.chainTrueRow.laid (({ World.holding Tryd.prog os ⟨#[], #[], []⟩ with heap := (World.holding Tryd.prog os ⟨#[], #[], []⟩).heap.modify 0 fun | .cells _ t frozen => .cells #[.int .i64 0, .int .i64 1, .int .i64 1, .int .i64 1, .int .i64 0, .int .i64 0, .int .i64 0, .int .i64 1, .int .i64 2, .int .i64 1, .int .i64 0, .int .i64 2, .int .i64 2, .int .i64 1, .int .i64 0, .int .i64 2, .int .i64 1, .int .i64 0, .int .i64 2, .int .i64 1, .int .i64 0, .int .i64 2, .int .i64 1, .int .i64 0, .int .i64 2, .int .i64 1, .int .i64 0, .int .i64 0, .int .i64 0, .int .i64 3, .int .i64 1, .int .i64 0, .int .i64 3, .int .i64 0, .int .i64 1, .int .i64 4, .int .i64 1, .int .i64 0, .int .i64 0, .int .i64 0, .int .i64 1, .int .i64 4, .int .i64 2, .int .i64 1, .int .i64 0, .int .i64 1, .int .i64 1, .int .i64 0, .int .i64 1, .int .i64 0, .int .i64 0] t frozen | o => o } : World).forCall (fun _ _ => 0) ⟨#[], #[.slice none 0 0, .agg #[.slice none 0 0, .int .i64 0, .slice none 0 0]], []⟩).memory :=
  laidMet_of_run' 8 (by kernel_rfl) (by kernel_rfl)
set_option maxRecDepth 100000 in
theorem chainTrue_reads (os : Os) {H : Type} (enc : TypeId × Value → H) : ∃ places, DataW.whole enc Tryd.prog (({ World.holding Tryd.prog os ⟨#[], #[], []⟩ with heap := (World.holding Tryd.prog os ⟨#[], #[], []⟩).heap.modify 0 fun | .cells _ t frozen => .cells #[.int .i64 0, .int .i64 1, .int .i64 1, .int .i64 1, .int .i64 0, .int .i64 0, .int .i64 0, .int .i64 1, .int .i64 2, .int .i64 1, .int .i64 0, .int .i64 2, .int .i64 2, .int .i64 1, .int .i64 0, .int .i64 2, .int .i64 1, .int .i64 0, .int .i64 2, .int .i64 1, .int .i64 0, .int .i64 2, .int .i64 1, .int .i64 0, .int .i64 2, .int .i64 1, .int .i64 0, .int .i64 0, .int .i64 0, .int .i64 3, .int .i64 1, .int .i64 0, .int .i64 3, .int .i64 0, .int .i64 1, .int .i64 4, .int .i64 1, .int .i64 0, .int .i64 0, .int .i64 0, .int .i64 1, .int .i64 4, .int .i64 2, .int .i64 1, .int .i64 0, .int .i64 1, .int .i64 1, .int .i64 0, .int .i64 1, .int .i64 0, .int .i64 0] t frozen | o => o } : World).forCall (fun _ _ => 0) ⟨#[], #[.slice none 0 0, .agg #[.slice none 0 0, .int .i64 0, .slice none 0 0]], []⟩).memory Tryd.f5.params.toList Rows.chainTrueSpec.vars false (#[.slice none 0 0, .agg #[.slice none 0 0, .int .i64 0, .slice none 0 0]] : Array Value).toList 8 = some ([.nil, .agg [.nil, .lit (.int .i64 0), .nil]], [], places) :=
  ⟨[], by kernel_rfl⟩

set_option maxRecDepth 100000 in
theorem chainTrue_lifted (os : Os) (started : os.Started) (H : Type) (enc : TypeId × Value → H) (F : Stop.Interp) :
    ReturnsInHanded {} Tryd.checked os 5 .any ((OpenSpec.ofChange Rows.chainTrueSpec).preRow enc Tryd.prog Tryd.f5 Rows.chainTrueRow.domain false Rows.chainTrueRow.laid) (((OpenSpec.ofChange Rows.chainTrueSpec).at F).post enc Tryd.prog Tryd.f5 false true false false) := by
  obtain ⟨places, hx⟩ := chainTrue_reads os enc
  refine returnsInHanded_of_row (C := Tryd.checked) (s := OpenSpec.ofChange Rows.chainTrueSpec) own started (by kernel_rfl) Tryd.func5
    (witness_row_at (enc := enc) (C := Tryd.checked) false ({ World.holding Tryd.prog os ⟨#[], #[], []⟩ with heap := (World.holding Tryd.prog os ⟨#[], #[], []⟩).heap.modify 0 fun | .cells _ t frozen => .cells #[.int .i64 0, .int .i64 1, .int .i64 1, .int .i64 1, .int .i64 0, .int .i64 0, .int .i64 0, .int .i64 1, .int .i64 2, .int .i64 1, .int .i64 0, .int .i64 2, .int .i64 2, .int .i64 1, .int .i64 0, .int .i64 2, .int .i64 1, .int .i64 0, .int .i64 2, .int .i64 1, .int .i64 0, .int .i64 2, .int .i64 1, .int .i64 0, .int .i64 2, .int .i64 1, .int .i64 0, .int .i64 0, .int .i64 0, .int .i64 3, .int .i64 1, .int .i64 0, .int .i64 3, .int .i64 0, .int .i64 1, .int .i64 4, .int .i64 1, .int .i64 0, .int .i64 0, .int .i64 0, .int .i64 1, .int .i64 4, .int .i64 2, .int .i64 1, .int .i64 0, .int .i64 1, .int .i64 1, .int .i64 0, .int .i64 1, .int .i64 0, .int .i64 0] t frozen | o => o } : World) #[.slice none 0 0, .agg #[.slice none 0 0, .int .i64 0, .slice none 0 0]] rfl (by kernel_rfl) (by kernel_rfl) (by kernel_rfl)
      (OpenSpec.preRow_of_cond 8 hx (by kernel_rfl) (fun k hk => by cases hk) (by kernel_rfl) (chainTrue_laid_met os))) ?_
  intro W base args ds gs before hval hW _ _ hsz hL _ _
  exact chainTrue_contract H enc W base args ds gs before hval hW hsz hL

set_option maxRecDepth 100000 in
theorem chainTrue_said : Rows.ChainTrueSaid :=
  OpenClaim.holds_of_cond 5 Tryd.f5 rfl rfl rfl rfl rfl rfl rfl ⟨rfl, rfl, rfl, rfl, rfl⟩ rfl rfl rfl rfl rfl (by kernel_rfl) Tryd.func5 (by kernel_rfl)
    (of_decide_eq_true (by kernel_rfl)) (by unfold Func.isWrapper; first | (rw [if_pos (by decide +kernel)]; kernel_rfl) | (rw [if_neg (by decide +kernel)]; exact ⟨rfl, rfl⟩))
    (fun os started H enc _ F => by rw [OpenClaim.pre_eq_preRow]; exact chainTrue_lifted os started H enc F)

set_option maxRecDepth 100000 in
theorem chainTrue_plain (f : FuncId) (fn : Func) (hf : Tryd.pinned.checked.prog.funcNamed "glebe/glebelaw.ChainTrue" = some f) (hfn : Tryd.pinned.checked.prog.funcs[f]? = some fn) :
    true = Tryd.pinned.checked.prog.looks [] ∧ ∀ (j : Nat) t, fn.params[j]? = some t → Tryd.pinned.checked.prog.wantsStandIn t = false := by
  obtain rfl : f = 5 := Option.some.inj ((show Tryd.prog.funcNamed "glebe/glebelaw.ChainTrue" = some 5 by kernel_rfl).symm.trans hf) |>.symm
  obtain rfl : fn = Tryd.f5 := (Option.some.inj (Tryd.func5.symm.trans hfn)).symm
  refine ⟨by kernel_rfl, fun j t ht => ?_⟩
  rw [Tryd.params5] at ht
  have hm := Array.mem_of_getElem? ht
  simp only [List.mem_toArray, List.mem_cons, List.not_mem_nil, or_false] at hm
  rcases hm with rfl | rfl
  · exact (show Tryd.prog.wantsStandIn 22 = false by kernel_rfl)
  · exact (show Tryd.prog.wantsStandIn 26 = false by kernel_rfl)

set_option maxRecDepth 100000 in
theorem chainTrue_card : Rows.ChainTrueCardSaid :=
  Claim7.holds_tied_plain_at .later [] _ _ _ _ chainTrue_said (fun _ h => by cases h) (by kernel_rfl) (fun _ h => by cases h) chainTrue_row_tie rfl ⟨rfl, rfl⟩ (by kernel_rfl) rfl chainTrue_plain (by kernel_rfl)
end Go.Proofs.YtohlefnljgkdcacDoor
