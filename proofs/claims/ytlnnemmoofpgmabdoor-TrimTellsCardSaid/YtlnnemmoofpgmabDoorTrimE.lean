/-
  The contract of the reference's trimmed.
-/
import Derived.Test.YtlnnemmoofpgmabDoorTrimD
import Derived.Test.YtlnnemmoofpgmabDoorProgD
import Derived.Deep.RegionWith
import Derived.Deep.DeepCutAuto
import Derived.Test.YtlnnemmoofpgmabDoorFlowE
namespace Go.Proofs.YtlnnemmoofpgmabDoor
open Go.RowKit

/-- Where ops go, as far as it has been written. -/
def toL (H : List Int) (m k : Nat) : List Int := (List.range m).map fun j => if j < k then ((placeS H j : Nat) : Int) else 0
theorem toL_zero (H : List Int) (m : Nat) : toL H m 0 = List.replicate m 0 := by
  apply List.ext_getElem
  · simp [toL]
  · intro i h1 h2; simp [toL]
theorem toL_step (H : List Int) {m k : Nat} : (toL H m k).set k (placeS H k : Nat) = toL H m (k + 1) := by
  apply List.ext_getElem
  · simp [toL]
  · intro i h1 h2
    simp only [List.getElem_set, toL, List.getElem_map, List.getElem_range]
    by_cases e : k = i
    · subst e; simp
    · simp only [e, if_false]
      by_cases h : i < k
      · rw [if_pos h, if_pos (by omega)]
      · rw [if_neg h, if_neg (by omega)]
theorem toL_len (H : List Int) (m k : Nat) : (toL H m k).length = m := by simp [toL]
theorem toL_at (H : List Int) {m t : Nat} (ht : t < m) : (toL H m m).getD t 0 = (placeS H t : Nat) := by simp [toL, List.getD, ht]

/-- Jumps go to ops. -/
def JumpsAll (c : List (Int × Int)) : Prop := ∀ (k : Nat) (x : Int × Int), c[k]? = some x → x.1 = 9 ∨ x.1 = 10 → ∃ t : Nat, x.2 = (t : Int) ∧ t < c.length
theorem jumpsAll_of {p : List Fn} {g : Fn} (hr : ∀ x, x ∈ g.code → opS p g x = 0) : JumpsAll g.code := by
  intro k x hx hj
  obtain ⟨_, _, hm⟩ := opS_kind (hr x (List.mem_of_getElem? hx))
  have ho : opd x.1.toNat = 3 := by rcases hj with e | e <;> rw [e] <;> rfl
  rw [ho] at hm
  have hx2 := ixB_iff.1 (show ixB x.2 g.code.length = true from hm)
  exact ⟨x.2.toNat, by omega, by omega⟩

set_option maxHeartbeats 8000000 in
set_option maxRecDepth 100000 in
theorem refTrimmed_go (i b o n cap bc oc m cc : Nat) (H : List Int) (g : Fn) (w : World) (hi : i < n)
    (c0 : w.cell? ⟨b, o + i * 3, none⟩ = some (.int .i64 g.args)) (c1 : w.cell? ⟨b, o + i * 3 + 1, none⟩ = some (.int .i64 g.locals)) (c2 : w.cell? ⟨b, o + i * 3 + 2, none⟩ = some (.slice (some ⟨bc, oc, none⟩) m cc))
    (hc : CodeAt w (.slice (some ⟨bc, oc, none⟩) m cc) g.code) (hml : m = g.code.length) (hm24 : m ≤ 24) (hm0 : 0 < m) (hHl : m = H.length) (hj : JumpsAll g.code)
    (hh : ∀ u, Kept w u → Calls Tryd.prog 38 #[.slice (some ⟨b, o, none⟩) n cap, .int .i64 i] u fun e u' => ∃ v, e = .returned (.tuple #[v, .bool true]) ∧ IntsAt u' v H ∧ Kept u u') :
    Calls Tryd.prog 41 #[.slice (some ⟨b, o, none⟩) n cap, .int .i64 i] w fun e w' => TrimPost g.args g.locals (trimC H g.code) w e w' := by
  have hcell : ∀ k x, g.code[k]? = some x → w.cell? ⟨bc, oc + k * 2, none⟩ = some (.int .i64 x.1) ∧ w.cell? ⟨bc, oc + k * 2 + 1, none⟩ = some (.int .i64 x.2) := by
    intro k x hx
    obtain ⟨oa, cap, he, _, hi⟩ := id hc
    obtain ⟨b, o, rfl, x0, x1⟩ := hi k x hx
    obtain ⟨⟨rfl, rfl⟩, -, -⟩ := (by simpa using he : (bc = b ∧ oc = o) ∧ m = g.code.length ∧ cc = cap)
    exact ⟨x0, x1⟩
  have hmk := make_ints m (by omega)
  obtain ⟨i0, hi0, hz0, hz1, hz2⟩ := info_parts infoOp
  have HCELL := hide hcell
  have C0 := hide c0
  have C1 := hide c1
  have C2 := hide c2
  have HML := hide hml
  have HHL := hide hHl
  have HJ := hide hj
  have HH := hide hh
  clear hc hml hHl hj hh hcell c0 c1 c2
  go_enter Tryd.func41, Tryd.ntmps41
  go_wp2_with fail
  refine ((unhide HH) _ ((Kept.refl w).alloc _)).mono ?_
  rintro e w1 ⟨u1, rfl, hu1, hk1⟩
  obtain ⟨bh, oh, ch, rfl, hhc⟩ := hu1.opened (by have := unhide HHL; omega)
  rw [← unhide HHL] at hhc ⊢
  have hb1 := lays_kept hk1 (lays_new (b := w.heap.size) (o := .cells #[.int .i64 0, .int .i64 0, .slice none 0 0] 36) rfl)
  have hk01 := ((Kept.refl w).alloc _).trans hk1
  have HB1 := hide hb1
  have HK01 := hide hk01
  have HHC := hide hhc
  have hT0 : Hid (HeightsAt (w1.alloc (.cells (Array.replicate m (.int .i64 0)) 3)) w1.heap.size (toL H m 0)) := by rw [toL_zero]; exact heights_zero (lays_new rfl)
  clear hb1 hk01 hhc hk1 hu1 HH
  go_wp2
  go_loopw [8, 9] (fun s8 s9 wr => ∃ k : Nat, k ≤ m ∧ s9 = .int .i64 k ∧ s8 = .int .i64 (placeS H k : Nat) ∧ Hid (HeightsAt wr w1.heap.size (toL H m k)) ∧ Hid (Kept w1 wr)) (fun _ s9 _ => m - (intOf s9).toNat)
  case atStart => exact ⟨0, Nat.zero_le _, rfl, rfl, hT0, (Kept.refl _).alloc _⟩
  case round =>
    obtain ⟨k, hkm, rfl, rfl, HT, HKr⟩ := hrel
    clear hT0 hmk
    have hpl := placeS_le H k
    by_cases hlt : k < m
    · have hk := (unhide HT).cell (k := k) (by rw [toL_len]; exact hlt)
      have hkf := (unhide HT).frozen k
      generalize (toL H m k).getD k 0 = tz at hk
      have hset := (unhide HT).set k (placeS H k : Nat)
      rw [toL_step H] at hset
      have hKs := (unhide HKr).setCell (p := ⟨w1.heap.size, k, none⟩) (Nat.le_refl _) (.int .i64 (placeS H k : Nat))
      have hl := hKs.cell ((unhide HHC) k hlt)
      have HST := hide hset
      have HKS := hide hKs
      clear hset hKs
      by_cases hs : 0 ≤ H.getD k 0
      · have hp1 : placeS H (k + 1) = placeS H k + 1 := placeS_succ hs
        have HP1 := hide hp1
        generalize H.getD k 0 = hz at hl hs
        generalize placeS H k = pk at *
        clear hp1
        go_wp2
        go_roundw
        case rel => exact ⟨k + 1, by omega, by go_num, by rw [unhide HP1]; go_num, HST, HKS⟩
        case measure => simp [intOf]; omega
      · have hp1 : placeS H (k + 1) = placeS H k := by
          conv => lhs; unfold placeS
          rw [if_neg hs]
        have HP1 := hide hp1
        generalize H.getD k 0 = hz at hl hs
        generalize placeS H k = pk at *
        clear hp1
        go_wp2
        go_roundw
        case rel => exact ⟨k + 1, by omega, by go_num, by rw [unhide HP1], HST, HKS⟩
        case measure => simp [intOf]; omega
    · obtain ⟨wq, hwq⟩ : ∃ wq, wq = wr := ⟨_, rfl⟩
      subst hwq
      have hkm' : k = m := by omega
      have hT := unhide HT
      rw [hkm'] at hT
      have HTM := hide hT
      have d0 := ((unhide HK01).trans (unhide HKr)).cell (unhide C0)
      have d1 := ((unhide HK01).trans (unhide HKr)).cell (unhide C1)
      have d0' : ∀ o1, (wq.alloc o1).cell? ⟨b, o + i * 3, none⟩ = _ := fun o1 => ((Kept.refl wq).alloc o1).cell d0
      have d1' : ∀ o1, (wq.alloc o1).cell? ⟨b, o + i * 3 + 1, none⟩ = _ := fun o1 => ((Kept.refl wq).alloc o1).cell d1
      clear hkm' hT hpl HT
      go_wp2_with fail
      go_cut [10] (fun s10 wx => ∃ Bo, s10 = .pointer (some ⟨Bo, 0, none⟩) ∧ Hid (wx.heap[Bo]? = some (.cells #[.int .i64 g.args, .int .i64 g.locals, .slice none 0 0] 36)) ∧ wq.heap.size ≤ Bo ∧ Hid (Kept wq wx))
      case first =>
        go_region
        all_goals go_wp2_with fail
        all_goals go_meet
        exact ⟨wq.heap.size, rfl, hide (lays_drew (lays_new rfl)), Nat.le_refl _, hide (((Kept.refl _).alloc _).drew)⟩
      case rest =>
        obtain ⟨Bo, rfl, HBO, hBo, HKx⟩ := hcut
        clear d0 d1 d0' d1'
        have hBx : Bo < wc.heap.size := (Array.getElem?_eq_some_iff.1 (unhide HBO)).1
        go_wp2
        go_loopw [11] (fun s11 wr => ∃ (k : Nat) (v : Value), k ≤ m ∧ s11 = .int .i64 k ∧ Hid (wr.heap[Bo]? = some (.cells #[.int .i64 g.args, .int .i64 g.locals, v] 36)) ∧ Hid (wr.ownsRow wc.heap.size 38 2 v (placeS H k) (flatOps (pick H (fun k => moveS H (g.code.getD k (0, 0))) k))) ∧ Hid (KeptX Bo wc wr)) (fun s11 _ => m - (intOf s11).toNat)
        case atStart => exact ⟨0, _, Nat.zero_le _, rfl, HBO, World.ownsRow_nil _ _ _ _, KeptX.refl _ _⟩
        case round =>
          obtain ⟨k, v, hkm, rfl, HV, HOW, HX⟩ := hrel
          have hK2 : Kept wq wr := KeptX.kept (unhide HKx) hBo (unhide HX)
          have hK02 : Kept w wr := (unhide HK01).trans ((unhide HKr).trans hK2)
          have d2 := hK02.cell (unhide C2)
          have hsx := (unhide HX).size
          by_cases hlt : k < m
          · obtain ⟨⟨kd, a⟩, hx⟩ : ∃ x, g.code[k]? = some x := ⟨_, List.getElem?_eq_getElem (by rw [← unhide HML]; exact hlt)⟩
            obtain ⟨x0, x1⟩ := (unhide HCELL) k _ hx
            have y0 := hK02.cell x0
            have y1 := hK02.cell x1
            simp only at y0 y1
            have hcd : g.code.getD k (0, 0) = (kd, a) := by simp [List.getD, hx]
            have hl0 := ((unhide HKr).trans hK2).cell ((unhide HHC) k hlt)
            have hTm : HeightsAt wr w1.heap.size (toL H m m) := (unhide HTM).kept hK2
            have hne : some Bo ≠ v.ownBlock := fun e => by have := row_block (unhide HOW) Bo e.symm; omega
            have hple := placeS_le H k
            by_cases hjz : kd = 9 ∨ kd = 10
            · obtain ⟨t, ht, htm⟩ := (unhide HJ) k _ hx hjz
              simp only at ht
              subst ht
              have htm' : t < m := by have := unhide HML; omega
              have ht0 := (hTm.kept ((Kept.refl wr).alloc (.cells #[.int .i64 kd, .int .i64 (t : Int)] 38))).cell (k := t) (by rw [toL_len]; exact htm')
              rw [toL_at H htm'] at ht0
              have hmv : moveS H (kd, (t : Int)) = (kd, ((placeS H t : Nat) : Int)) := by unfold moveS; rw [if_pos hjz]; simp
              have HMV := hide hmv
              by_cases hs : 0 ≤ H.getD k 0
              · have hp1 : placeS H (k + 1) = placeS H k + 1 := placeS_succ hs
                have hp2 : pick H (fun k => moveS H (g.code.getD k (0, 0))) (k + 1) = pick H (fun k => moveS H (g.code.getD k (0, 0))) k ++ [moveS H (kd, (t : Int))] := by
                  conv => lhs; unfold pick
                  rw [if_pos hs, hcd]
                rw [hmv] at hp2
                have hfl := congrArg flatOps hp2
                rw [flatOps_snoc] at hfl
                have HP1 := hide hp1
                have HFL := hide hfl
                have hown6 := unhide HOW
                have hl1 : ∀ u, (wr.alloc (.cells #[.int .i64 kd, u] 38)).cell? ⟨bh, oh + k, none⟩ = some (.int .i64 (H.getD k 0)) := fun u => ((Kept.refl wr).alloc _).cell hl0
                have hv0 : ∀ u, (wr.alloc (.cells #[.int .i64 kd, u] 38)).cell? ⟨Bo, 2, none⟩ = some v := fun u => cell_lays (lays_alloc (unhide HV) _) 2
                obtain ⟨ov, cv, hve⟩ : ∃ ov cv, v = .slice ov (placeS H k) cv := by
                  rcases hown6.2 with ⟨e, h0⟩ | ⟨gg, cap, cur, e, _⟩
                  · exact ⟨none, 0, by rw [e, h0]⟩
                  · exact ⟨_, _, e⟩
                subst hve
                clear hp1 hp2 hfl hcd hx x0 x1 hmv hTm hl0
                generalize placeS H t = pt at *
                generalize H.getD k 0 = hz at hl1 hs
                generalize placeS H k = pk at *
                rcases hjz with rfl | rfl
                all_goals go_wp2_with (at_builtin; refine wpList_append_own _ rfl _ _ 34 rfl wc.heap.size 38 i0 (.agg #[.int .i64 0, .int .i64 0]) 2 16 Tryd.underlying34 hi0 hz0 hz1 hz2 rfl (by decide) _ _ _ rfl ((hown6.alloc _).alloc _) ⟨wr.heap.size + 1, 0, none⟩ 1 1 [.int .i64 _, .int .i64 (pt : Int)] rfl rfl (two_new _ _ _ _ _ (by simp)) (two_int _ _) (by unfold maxLen; omega) (by omega) (by simp; omega) ?_; intro v' w4 hown' hgrow _; obtain ⟨g4, cq4, hv'⟩ := ownsRow_slice (by omega) hown'; subst hv'; have hb4 := (hgrow.block Bo (by simp; omega) hne).trans (lays_alloc (lays_alloc (unhide HV) _) _); have e2 := cell_lays hb4 2; have z2 := frozen_lays hb4 2; simp only [List.getElem?_toArray, List.getElem?_cons_zero, List.getElem?_cons_succ] at e2; have HB4 := hide hb4; have HO4 := hide hown'; have HX4 := hide (KeptX.below (((unhide HX).alloc _).alloc _) (grown_below (by simp; omega) hgrow (row_block hown6))); clear hb4 hown' hgrow)
                all_goals go_roundw
                case rel => exact ⟨k + 1, _, by omega, by go_num, lays_set (unhide HB4) 2 _, by rw [unhide HP1, unhide HFL]; exact ownsRow_setCell_below (unhide HO4) hBx _, (unhide HX4).setCell (p := ⟨Bo, 2, none⟩) (.inl rfl) _⟩
                case measure => simp [intOf]; omega
                case rel => exact ⟨k + 1, _, by omega, by go_num, lays_set (unhide HB4) 2 _, by rw [unhide HP1, unhide HFL]; exact ownsRow_setCell_below (unhide HO4) hBx _, (unhide HX4).setCell (p := ⟨Bo, 2, none⟩) (.inl rfl) _⟩
                case measure => simp [intOf]; omega
              · have hp1 : placeS H (k + 1) = placeS H k := by
                  conv => lhs; unfold placeS
                  rw [if_neg hs]
                have hp2 : pick H (fun k => moveS H (g.code.getD k (0, 0))) (k + 1) = pick H (fun k => moveS H (g.code.getD k (0, 0))) k := by
                  conv => lhs; unfold pick
                  rw [if_neg hs]
                have HP1 := hide hp1
                have HP2 := hide hp2
                have hl1 : ∀ u, (wr.alloc (.cells #[.int .i64 kd, u] 38)).cell? ⟨bh, oh + k, none⟩ = some (.int .i64 (H.getD k 0)) := fun u => ((Kept.refl wr).alloc _).cell hl0
                clear hp1 hp2 hcd hx x0 x1 hmv hTm hl0
                generalize placeS H t = pt at *
                generalize H.getD k 0 = hz at hl1 hs
                rcases hjz with rfl | rfl
                all_goals go_wp2
                all_goals go_roundw
                case rel => exact ⟨k + 1, _, by omega, by go_num, lays_alloc (unhide HV) _, by rw [unhide HP1, unhide HP2]; exact (unhide HOW).alloc _, (unhide HX).alloc _⟩
                case measure => simp [intOf]; omega
                case rel => exact ⟨k + 1, _, by omega, by go_num, lays_alloc (unhide HV) _, by rw [unhide HP1, unhide HP2]; exact (unhide HOW).alloc _, (unhide HX).alloc _⟩
                case measure => simp [intOf]; omega
            · have h9 : (kd == 9) = false := by rw [beq_eq_false_iff_ne]; intro e; exact hjz (.inl e)
              have h10 : (kd == 10) = false := by rw [beq_eq_false_iff_ne]; intro e; exact hjz (.inr e)
              have hmv : moveS H (kd, a) = (kd, a) := by unfold moveS; rw [if_neg hjz]
              by_cases hs : 0 ≤ H.getD k 0
              · have hp1 : placeS H (k + 1) = placeS H k + 1 := placeS_succ hs
                have hp2 : pick H (fun k => moveS H (g.code.getD k (0, 0))) (k + 1) = pick H (fun k => moveS H (g.code.getD k (0, 0))) k ++ [moveS H (kd, a)] := by
                  conv => lhs; unfold pick
                  rw [if_pos hs, hcd]
                rw [hmv] at hp2
                have hfl := congrArg flatOps hp2
                rw [flatOps_snoc] at hfl
                have HP1 := hide hp1
                have HFL := hide hfl
                have hown6 := unhide HOW
                have hl1 : ∀ u, (wr.alloc (.cells #[.int .i64 kd, u] 38)).cell? ⟨bh, oh + k, none⟩ = some (.int .i64 (H.getD k 0)) := fun u => ((Kept.refl wr).alloc _).cell hl0
                have hv0 : ∀ u, (wr.alloc (.cells #[.int .i64 kd, u] 38)).cell? ⟨Bo, 2, none⟩ = some v := fun u => cell_lays (lays_alloc (unhide HV) _) 2
                obtain ⟨ov, cv, hve⟩ : ∃ ov cv, v = .slice ov (placeS H k) cv := by
                  rcases hown6.2 with ⟨e, h0⟩ | ⟨gg, cap, cur, e, _⟩
                  · exact ⟨none, 0, by rw [e, h0]⟩
                  · exact ⟨_, _, e⟩
                subst hve
                clear hp1 hp2 hfl hcd hx x0 x1 hmv hTm hl0 hjz
                generalize H.getD k 0 = hz at hl1 hs
                generalize placeS H k = pk at *
                go_wp2_with (at_builtin; refine wpList_append_own _ rfl _ _ 34 rfl wc.heap.size 38 i0 (.agg #[.int .i64 0, .int .i64 0]) 2 16 Tryd.underlying34 hi0 hz0 hz1 hz2 rfl (by decide) _ _ _ rfl ((hown6.alloc _).alloc _) ⟨wr.heap.size + 1, 0, none⟩ 1 1 [.int .i64 _, .int .i64 a] rfl rfl (two_new _ _ _ _ _ (by simp)) (two_int _ _) (by unfold maxLen; omega) (by omega) (by simp; omega) ?_; intro v' w4 hown' hgrow _; obtain ⟨g4, cq4, hv'⟩ := ownsRow_slice (by omega) hown'; subst hv'; have hb4 := (hgrow.block Bo (by simp; omega) hne).trans (lays_alloc (lays_alloc (unhide HV) _) _); have e2 := cell_lays hb4 2; have z2 := frozen_lays hb4 2; simp only [List.getElem?_toArray, List.getElem?_cons_zero, List.getElem?_cons_succ] at e2; have HB4 := hide hb4; have HO4 := hide hown'; have HX4 := hide (KeptX.below (((unhide HX).alloc _).alloc _) (grown_below (by simp; omega) hgrow (row_block hown6))); clear hb4 hown' hgrow)
                go_roundw
                case rel => exact ⟨k + 1, _, by omega, by go_num, lays_set (unhide HB4) 2 _, by rw [unhide HP1, unhide HFL]; exact ownsRow_setCell_below (unhide HO4) hBx _, (unhide HX4).setCell (p := ⟨Bo, 2, none⟩) (.inl rfl) _⟩
                case measure => simp [intOf]; omega
              · have hp1 : placeS H (k + 1) = placeS H k := by
                  conv => lhs; unfold placeS
                  rw [if_neg hs]
                have hp2 : pick H (fun k => moveS H (g.code.getD k (0, 0))) (k + 1) = pick H (fun k => moveS H (g.code.getD k (0, 0))) k := by
                  conv => lhs; unfold pick
                  rw [if_neg hs]
                have HP1 := hide hp1
                have HP2 := hide hp2
                have hl1 : ∀ u, (wr.alloc (.cells #[.int .i64 kd, u] 38)).cell? ⟨bh, oh + k, none⟩ = some (.int .i64 (H.getD k 0)) := fun u => ((Kept.refl wr).alloc _).cell hl0
                clear hp1 hp2 hcd hx x0 x1 hmv hTm hl0 hjz
                generalize H.getD k 0 = hz at hl1 hs
                go_wp2
                go_roundw
                case rel => exact ⟨k + 1, _, by omega, by go_num, lays_alloc (unhide HV) _, by rw [unhide HP1, unhide HP2]; exact (unhide HOW).alloc _, (unhide HX).alloc _⟩
                case measure => simp [intOf]; omega
          · have hke : k = H.length := by have := unhide HHL; omega
            have hO := unhide HOW
            rw [hke] at hO
            have hBw : w.heap.size < wq.heap.size := Nat.lt_of_lt_of_le (Array.getElem?_eq_some_iff.1 (unhide HB1)).1 (unhide HKr).size
            have hwc : w.heap.size < wc.heap.size := by omega
            have hcode : ∀ u0 u1 u2, CodeNew wc.heap.size (((wr.setCell ⟨w.heap.size, 0, none⟩ u0).setCell ⟨w.heap.size, 1, none⟩ u1).setCell ⟨w.heap.size, 2, none⟩ u2) v (trimC H g.code) := fun u0 u1 u2 =>
              codeAt_row (c := trimC H g.code) (ownsRow_setCell_below (ownsRow_setCell_below (ownsRow_setCell_below hO hwc u0) hwc u1) hwc u2) (trimC_len H g.code).symm (by rw [trimC_len]; have := placeS_le H H.length; have := unhide HHL; omega)
            obtain ⟨oa6, cp6, he6, _, _⟩ := hcode undef undef undef
            subst he6
            have hr1 := lays_kept ((unhide HKr).trans hK2) (unhide HB1)
            have f0 := cell_lays (unhide HV) 0
            have f1 := cell_lays (unhide HV) 1
            have f2 := cell_lays (unhide HV) 2
            have e0 := cell_lays hr1 0
            have e1 := cell_lays hr1 1
            have e2 := cell_lays hr1 2
            have z0 := frozen_lays hr1 0
            have z1 := frozen_lays hr1 1
            have z2 := frozen_lays hr1 2
            simp only [List.getElem?_toArray, List.getElem?_cons_zero, List.getElem?_cons_succ] at f0 f1 f2 e0 e1 e2
            have HCO := hide hcode
            have HR1 := hide hr1
            have HK2 := hide hK02
            clear hke hO hcode hr1 hK2 hK02 d2
            go_wp2
            have hl3 := lays_set (lays_set (lays_set (unhide HR1) 0 (.int .i64 g.args)) 1 (.int .i64 g.locals)) 2 (.slice oa6 (trimC H g.code).length cp6)
            have k0 := cell_lays hl3 0
            have k1 := cell_lays hl3 1
            have k2 := cell_lays hl3 2
            simp only [Array.setIfInBounds, List.size_toArray, List.length_cons, List.length_nil] at k0 k1 k2
            refine bodyPost_ret (v := .agg #[.int .i64 g.args, .int .i64 g.locals, .slice oa6 (trimC H g.code).length cp6]) (by simp [results, Tryd.results41, go_sem, k0, k1, k2]) rfl ?_
            exact ⟨_, rfl, ((unhide HCO) _ _ _).mono (Nat.le_of_lt hwc), (((unhide HK2).setCell (p := ⟨w.heap.size, 0, none⟩) (Nat.le_refl _) _).setCell (p := ⟨w.heap.size, 1, none⟩) (Nat.le_refl _) _).setCell (p := ⟨w.heap.size, 2, none⟩) (Nat.le_refl _) _⟩

/-- The reference's trimmed, of a right function that has heights. -/
theorem refTrimmed_any (p : List Fn) (v : Value) (k : Nat) (w : World) (hp : ProgAt w v p) (hz : chkS p k = 0) (hh : heightsS p (codeOf p k) = some (hgtL p k)) :
    Calls Tryd.prog 41 #[v, .int .i64 k] w fun e w' => TrimPost (trimF p k).args (trimF p k).locals (trimF p k).code w e w' := by
  obtain ⟨i, hi0, hi, hm, hr, hops⟩ := chkS_zero hz
  obtain rfl : k = i := by omega
  have hR : Right p (codeOf p k) := ⟨p.getD k Fn.zero, rfl, opsS_all hops⟩
  obtain ⟨hcons, _⟩ := heightsS_ok hR hh
  have hl : (hgtL p k).length = (p.getD k Fn.zero).code.length := hcons.len
  have hpos : 0 < (p.getD k Fn.zero).code.length := hcons.pos
  have hrh : ∀ u, Kept w u → Calls Tryd.prog 38 #[v, .int .i64 k] u fun e u' => ∃ v, e = .returned (.tuple #[v, .bool true]) ∧ IntsAt u' v (hgtL p k) ∧ Kept u u' := fun u hu => by
    refine (refHeights_at p v k u (hp.kept hu) hz).mono ?_
    rintro e u' ⟨x, h1, h2, h3⟩
    rw [hh] at h1 h2
    exact ⟨x, h1, h2, h3⟩
  obtain ⟨oa, cap, rfl, _, hcell⟩ := id hp
  obtain ⟨b, o, cv, rfl, c0, c1, c2, hc⟩ := hcell k _ (getD_of_lt p k Fn.zero hi)
  obtain ⟨oc, cc, rfl, _, hcc⟩ := id hc
  obtain ⟨bc, oc', rfl, _, _⟩ := hcc 0 _ (getD_of_lt _ 0 (0, 0) hpos)
  exact refTrimmed_go k b o _ cap bc oc' _ cc (hgtL p k) _ w hi c0 c1 c2 hc rfl hm hpos hl.symm (jumpsAll_of (opsS_all hops)) hrh
end Go.Proofs.YtlnnemmoofpgmabDoor
