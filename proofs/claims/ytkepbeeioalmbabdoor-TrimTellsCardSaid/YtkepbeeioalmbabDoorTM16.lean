/- ProgD0, TrimE, FlowJ, TrimF, TrimG, FlowH0, TrimH -/
import Derived.Test.YtkepbeeioalmbabDoorTM11
import Derived.Test.YtkepbeeioalmbabDoorTM14
import Derived.Test.YtkepbeeioalmbabDoorTM15
import Derived.Test.YtkepbeeioalmbabDoorTM12
import Derived.Deep.RegionWith
import Derived.Deep.DeepCutAuto
import Derived.Test.YtkepbeeioalmbabDoorTM10
import Derived.Maps.AppendAt
import Derived.Deep.RegionHeld3
set_option maxRecDepth 100000
set_option maxHeartbeats 8000000
namespace Go.Proofs.YtkepbeeioalmbabDoor
open Go.RowKit
theorem refHeights_at (p : List Fn) (v : Value) (k : Nat) (w : World) (hp : ProgAt w v p) (hz : chkS p k = 0) :
    Calls Tryd.prog 29 #[v, .int .i64 k] w fun e w' => RefPost p (codeOf p k) w e w' := by
  obtain ⟨i, hi0, hi, hm, hr, hops⟩ := chkS_zero hz
  obtain rfl : k = i := by omega
  obtain ⟨oa, cap, rfl, hl, hcell⟩ := id hp
  obtain ⟨b, o, cv, rfl, c0, c1, c2, hc⟩ := hcell k _ (getD_of_lt p k Fn.zero hi)
  obtain ⟨oc, cc, rfl, _, _⟩ := id hc
  exact refHeights_any p (p.getD k Fn.zero) k b o cap oc _ cc w hp hi c2 hc rfl hm (fun x hx => opsS_all hops x hx)
theorem hgtE_some {p : List Fn} {k : Nat} : hgtE p k = if (heightsS p (codeOf p k)).isSome = true then 0 else 1 := by
  unfold hgtE
  cases heightsS p (codeOf p k) <;> rfl
theorem progError_many (oa : Option Addr) (n cap : Nat) (w : World) (h : 5 < (n : Int)) :
    Calls Tryd.prog 12 #[.slice oa n cap] w fun e w' => e = .returned (.int .i64 2) ∧ Kept w w' := by
  go_enter Tryd.func12, Tryd.ntmps12
  go_wp2
  go_ret
  exact ⟨rfl, Kept.refl _⟩
theorem progError_none (oa : Option Addr) (cap : Nat) (w : World) :
    Calls Tryd.prog 12 #[.slice oa 0 cap] w fun e w' => e = .returned (.int .i64 5) ∧ Kept w w' := by
  go_enter Tryd.func12, Tryd.ntmps12
  go_wp2
  go_ret
  exact ⟨rfl, Kept.refl _⟩
theorem progError_args (b o n cap : Nat) (ar : Int) (w : World) (h : ¬ 5 < (n : Int)) (h0 : ((n : Int) == 0) = false) (hn : 0 < n) (c0 : w.cell? ⟨b, o, none⟩ = some (.int .i64 ar)) (ha : (ar != 0) = true) :
    Calls Tryd.prog 12 #[.slice (some ⟨b, o, none⟩) n cap] w fun e w' => e = .returned (.int .i64 1) ∧ Kept w w' := by
  go_enter Tryd.func12, Tryd.ntmps12
  go_wp2
  go_ret
  exact ⟨rfl, Kept.refl _⟩
theorem progError_go (p : List Fn) (b o n cap : Nat) (w : World) (hp : ProgAt w (.slice (some ⟨b, o, none⟩) n cap) p) (hl : n = p.length) (h : ¬ 5 < (n : Int)) (h0 : ((n : Int) == 0) = false) (hn : 0 < n) (c0 : w.cell? ⟨b, o, none⟩ = some (.int .i64 0)) (rr : Int) (hrr : (if firstS (fun k => chkS p k) 0 p.length = 0 then firstS (hgtE p) 0 p.length else firstS (fun k => chkS p k) 0 p.length) = rr) :
    Calls Tryd.prog 12 #[.slice (some ⟨b, o, none⟩) n cap] w fun e w' => e = .returned (.int .i64 rr) ∧ Kept w w' := by
  have HRR := hide hrr
  clear hrr
  have HP := hide hp
  have HL := hide hl
  clear hp hl
  go_enter Tryd.func12, Tryd.ntmps12
  go_wp2
  go_loopw [3] (fun s wr => ∃ k : Nat, k ≤ n ∧ s = .int .i64 k ∧ Hid (firstS (fun k => chkS p k) k (n - k) = firstS (fun k => chkS p k) 0 p.length) ∧ Hid (Kept w wr)) (fun s _ => n - (intOf s).toNat)
  case atStart => exact ⟨0, Nat.zero_le _, rfl, by have := unhide HL; subst this; rfl, Kept.refl _⟩
  case round =>
    obtain ⟨k, hkm, rfl, HO, HKr⟩ := hrel
    by_cases hlt : k < n
    · have hst := firstS_step (e := fun k => chkS p k) hlt
      have HST := hide hst
      have hck := funcError_any p (.slice (some ⟨b, o, none⟩) n cap) k wr ((unhide HP).kept (unhide HKr))
      have HCK := hide hck
      clear hst hck
      go_wp2_with fail
      refine (unhide HCK).mono ?_
      clear HCK
      rintro e w2 ⟨rfl, hk2⟩
      have HK2 := hide ((unhide HKr).trans hk2)
      clear hk2
      by_cases hz : chkS p k = 0
      · have hst := unhide HST
        simp only [hz, if_true] at hst
        have HS2 := hide (hst.symm.trans (unhide HO))
        rw [hz]
        clear hst hz HST HO
        go_wp2
        go_roundw
        case rel => exact ⟨k + 1, by omega, by go_num, HS2, HK2⟩
        case measure => simp [intOf]; omega
      · have hst := unhide HST
        simp only [hz, if_false] at hst
        have hs2 := hst.symm.trans (unhide HO)
        have hz' : (chkS p k != 0) = true := by rw [bne_iff_ne]; exact hz
        generalize chkS p k = r at *
        have HS2 := hide hs2
        have HZ := hide hz
        clear hst hz HST HO hs2
        go_wp2
        go_ret
        have hrr := unhide HRR
        rw [← unhide HS2, if_neg (unhide HZ)] at hrr
        exact ⟨by rw [← hrr]; rfl, unhide HK2⟩
    · have hf0 : firstS (fun k => chkS p k) 0 p.length = 0 := by
        rw [← unhide HO, show n - k = 0 by omega]
        rfl
      have HF := hide hf0
      clear hf0 HO
      go_wp2
      go_loopw [5] (fun s wq => ∃ k : Nat, k ≤ n ∧ s = .int .i64 k ∧ Hid (firstS (hgtE p) k (n - k) = firstS (hgtE p) 0 p.length) ∧ Hid (Kept w wq)) (fun s _ => n - (intOf s).toNat)
      case atStart => exact ⟨0, Nat.zero_le _, rfl, by have := unhide HL; subst this; rfl, HKr⟩
      case round =>
        obtain ⟨k, hkm, rfl, HO, HKq⟩ := hrel
        by_cases hlt : k < n
        · have hst := firstS_step (e := hgtE p) hlt
          have hz0 : chkS p k = 0 := firstS_zero (unhide HF) k (by omega) (by have := unhide HL; omega)
          have hck := refHeights_at p (.slice (some ⟨b, o, none⟩) n cap) k _ ((unhide HP).kept (unhide HKq)) hz0
          rw [hgtE_some] at hst
          have HST := hide hst
          have HCK := hide hck
          clear hst hck hz0
          go_wp2_with fail
          refine (unhide HCK).mono ?_
          clear HCK
          rintro e w2 ⟨v2, rfl, _, hk2⟩
          have HK2 := hide ((unhide HKq).trans hk2)
          clear hk2
          cases hz : (heightsS p (codeOf p k)).isSome with
          | true =>
            have hst := unhide HST
            rw [hz] at hst
            simp only [if_true] at hst
            have HS2 := hide (hst.symm.trans (unhide HO))
            clear hst hz HST HO
            go_wp2
            go_roundw
            case rel => exact ⟨k + 1, by omega, by go_num, HS2, HK2⟩
            case measure => simp [intOf]; omega
          | false =>
            have hst := unhide HST
            rw [hz] at hst
            simp at hst
            have HS2 := hide (hst.symm.trans (unhide HO))
            clear hst hz HST HO
            go_wp2
            go_ret
            have hrr := unhide HRR
            rw [if_pos (unhide HF), ← unhide HS2] at hrr
            exact ⟨by rw [← hrr]; rfl, unhide HK2⟩
        · have hf1 : firstS (hgtE p) 0 p.length = 0 := by
            rw [← unhide HO, show n - k = 0 by omega]
            rfl
          have HF1 := hide hf1
          clear hf1 HO
          go_wp2
          go_ret
          have hrr := unhide HRR
          rw [if_pos (unhide HF), unhide HF1] at hrr
          exact ⟨by rw [← hrr]; rfl, unhide HKq⟩
theorem progError_any (p : List Fn) (v : Value) (w : World) (hp : ProgAt w v p) :
    Calls Tryd.prog 12 #[v] w fun e w' => e = .returned (.int .i64 (progS p)) ∧ Kept w w' := by
  obtain ⟨oa, cap, rfl, hl, hi⟩ := id hp
  unfold progS
  by_cases h5 : 5 < p.length
  · rw [if_pos h5]
    exact progError_many oa p.length cap w (by omega)
  · rw [if_neg h5]
    by_cases h0 : p.length = 0
    · rw [if_pos h0, h0]
      exact progError_none oa cap w
    · rw [if_neg h0]
      have h0' : ((p.length : Int) == 0) = false := by rw [beq_eq_false_iff_ne]; omega
      obtain ⟨b, o, cv, rfl, c0, c1, c2, hc⟩ := hi 0 _ (getD_of_lt p 0 Fn.zero (by omega))
      simp only [Nat.zero_mul, Nat.add_zero] at c0
      by_cases ha : (p.getD 0 Fn.zero).args = 0
      · rw [if_neg (not_not_intro ha)]
        rw [ha] at c0
        exact progError_go p b o p.length cap w hp rfl (by omega) h0' (by omega) c0 _ rfl
      · rw [if_pos ha]
        exact progError_args b o p.length cap _ w (by omega) h0' (by omega) c0 (by rw [bne_iff_ne]; exact ha)
def toL (H : List Int) (m k : Nat) : List Int := (List.range m).map fun j => if j < k then ((placeS H j : Nat) : Int) else 0
theorem toL_zero (H : List Int) (m : Nat) : toL H m 0 = List.replicate m 0 := by
  apply List.ext_getElem
  · simp [toL]
  · intro i h1 h2; simp [toL]
theorem toL_step (H : List Int) {m k : Nat} : (toL H m k).set k (placeS H k : Nat) = toL H m (k + 1) := by
  apply List.ext_getElem
  · simp [toL]
  · intro i h1 h2
    simp only [List.getElem_set, toL, List.getElem_map, List.getElem_range]
    by_cases e : k = i
    · subst e; simp
    · simp only [e, if_false]
      by_cases h : i < k
      · rw [if_pos h, if_pos (by omega)]
      · rw [if_neg h, if_neg (by omega)]
theorem toL_len (H : List Int) (m k : Nat) : (toL H m k).length = m := by simp [toL]
theorem toL_at (H : List Int) {m t : Nat} (ht : t < m) : (toL H m m).getD t 0 = (placeS H t : Nat) := by simp [toL, List.getD, ht]
def JumpsAll (c : List (Int × Int)) : Prop := ∀ (k : Nat) (x : Int × Int), c[k]? = some x → x.1 = 9 ∨ x.1 = 10 → ∃ t : Nat, x.2 = (t : Int) ∧ t < c.length
theorem jumpsAll_of {p : List Fn} {g : Fn} (hr : ∀ x, x ∈ g.code → opS p g x = 0) : JumpsAll g.code := by
  intro k x hx hj
  obtain ⟨_, _, hm⟩ := opS_kind (hr x (List.mem_of_getElem? hx))
  have ho : opd x.1.toNat = 3 := by rcases hj with e | e <;> rw [e] <;> rfl
  rw [ho] at hm
  have hx2 := ixB_iff.1 (show ixB x.2 g.code.length = true from hm)
  exact ⟨x.2.toNat, by omega, by omega⟩
theorem refTrimmed_go (i b o n cap bc oc m cc : Nat) (H : List Int) (g : Fn) (w : World) (hi : i < n)
    (c0 : w.cell? ⟨b, o + i * 3, none⟩ = some (.int .i64 g.args)) (c1 : w.cell? ⟨b, o + i * 3 + 1, none⟩ = some (.int .i64 g.locals)) (c2 : w.cell? ⟨b, o + i * 3 + 2, none⟩ = some (.slice (some ⟨bc, oc, none⟩) m cc))
    (hc : CodeAt w (.slice (some ⟨bc, oc, none⟩) m cc) g.code) (hml : m = g.code.length) (hm24 : m ≤ 24) (hm0 : 0 < m) (hHl : m = H.length) (hj : JumpsAll g.code)
    (hh : ∀ u, Kept w u → Calls Tryd.prog 29 #[.slice (some ⟨b, o, none⟩) n cap, .int .i64 i] u fun e u' => ∃ v, e = .returned (.tuple #[v, .bool true]) ∧ IntsAt u' v H ∧ Kept u u') :
    Calls Tryd.prog 32 #[.slice (some ⟨b, o, none⟩) n cap, .int .i64 i] w fun e w' => TrimPost g.args g.locals (trimC H g.code) w e w' := by
  have hcell : ∀ k x, g.code[k]? = some x → w.cell? ⟨bc, oc + k * 2, none⟩ = some (.int .i64 x.1) ∧ w.cell? ⟨bc, oc + k * 2 + 1, none⟩ = some (.int .i64 x.2) := by
    intro k x hx
    obtain ⟨oa, cap, he, _, hi⟩ := id hc
    obtain ⟨b, o, rfl, x0, x1⟩ := hi k x hx
    obtain ⟨⟨rfl, rfl⟩, -, -⟩ := (by simpa using he : (bc = b ∧ oc = o) ∧ m = g.code.length ∧ cc = cap)
    exact ⟨x0, x1⟩
  have hmk := make_ints m (by omega)
  obtain ⟨i0, hi0, hz0, hz1, hz2⟩ := info_parts infoOp
  have HCELL := hide hcell
  have C0 := hide c0
  have C1 := hide c1
  have C2 := hide c2
  have HML := hide hml
  have HHL := hide hHl
  have HJ := hide hj
  have HH := hide hh
  clear hc hml hHl hj hh hcell c0 c1 c2
  go_enter Tryd.func32, Tryd.ntmps32
  go_wp2_with fail
  refine ((unhide HH) _ ((Kept.refl w).alloc _)).mono ?_
  rintro e w1 ⟨u1, rfl, hu1, hk1⟩
  obtain ⟨bh, oh, ch, rfl, hhc⟩ := hu1.opened (by have := unhide HHL; omega)
  rw [← unhide HHL] at hhc ⊢
  have hb1 := lays_kept hk1 (lays_new (b := w.heap.size) (o := .cells #[.int .i64 0, .int .i64 0, .slice none 0 0] 36) rfl)
  have hk01 := ((Kept.refl w).alloc _).trans hk1
  have HB1 := hide hb1
  have HK01 := hide hk01
  have HHC := hide hhc
  have hT0 : Hid (HeightsAt (w1.alloc (.cells (Array.replicate m (.int .i64 0)) 3)) w1.heap.size (toL H m 0)) := by rw [toL_zero]; exact heights_zero (lays_new rfl)
  clear hb1 hk01 hhc hk1 hu1 HH
  go_wp2
  go_loopw [8, 9] (fun s8 s9 wr => ∃ k : Nat, k ≤ m ∧ s9 = .int .i64 k ∧ s8 = .int .i64 (placeS H k : Nat) ∧ Hid (HeightsAt wr w1.heap.size (toL H m k)) ∧ Hid (Kept w1 wr)) (fun _ s9 _ => m - (intOf s9).toNat)
  case atStart => exact ⟨0, Nat.zero_le _, rfl, rfl, hT0, (Kept.refl _).alloc _⟩
  case round =>
    obtain ⟨k, hkm, rfl, rfl, HT, HKr⟩ := hrel
    clear hT0 hmk
    have hpl := placeS_le H k
    by_cases hlt : k < m
    · have hk := (unhide HT).cell (k := k) (by rw [toL_len]; exact hlt)
      have hkf := (unhide HT).frozen k
      generalize (toL H m k).getD k 0 = tz at hk
      have hset := (unhide HT).set k (placeS H k : Nat)
      rw [toL_step H] at hset
      have hKs := (unhide HKr).setCell (p := ⟨w1.heap.size, k, none⟩) (Nat.le_refl _) (.int .i64 (placeS H k : Nat))
      have hl := hKs.cell ((unhide HHC) k hlt)
      have HST := hide hset
      have HKS := hide hKs
      clear hset hKs
      by_cases hs : 0 ≤ H.getD k 0
      · have hp1 : placeS H (k + 1) = placeS H k + 1 := placeS_succ hs
        have HP1 := hide hp1
        generalize H.getD k 0 = hz at hl hs
        generalize placeS H k = pk at *
        clear hp1
        go_wp2
        go_roundw
        case rel => exact ⟨k + 1, by omega, by go_num, by rw [unhide HP1]; go_num, HST, HKS⟩
        case measure => simp [intOf]; omega
      · have hp1 : placeS H (k + 1) = placeS H k := by
          conv => lhs; unfold placeS
          rw [if_neg hs]
        have HP1 := hide hp1
        generalize H.getD k 0 = hz at hl hs
        generalize placeS H k = pk at *
        clear hp1
        go_wp2
        go_roundw
        case rel => exact ⟨k + 1, by omega, by go_num, by rw [unhide HP1], HST, HKS⟩
        case measure => simp [intOf]; omega
    · obtain ⟨wq, hwq⟩ : ∃ wq, wq = wr := ⟨_, rfl⟩
      subst hwq
      have hkm' : k = m := by omega
      have hT := unhide HT
      rw [hkm'] at hT
      have HTM := hide hT
      have d0 := ((unhide HK01).trans (unhide HKr)).cell (unhide C0)
      have d1 := ((unhide HK01).trans (unhide HKr)).cell (unhide C1)
      have d0' : ∀ o1, (wq.alloc o1).cell? ⟨b, o + i * 3, none⟩ = _ := fun o1 => ((Kept.refl wq).alloc o1).cell d0
      have d1' : ∀ o1, (wq.alloc o1).cell? ⟨b, o + i * 3 + 1, none⟩ = _ := fun o1 => ((Kept.refl wq).alloc o1).cell d1
      clear hkm' hT hpl HT
      go_wp2_with fail
      go_cut [10] (fun s10 wx => ∃ Bo, s10 = .pointer (some ⟨Bo, 0, none⟩) ∧ Hid (wx.heap[Bo]? = some (.cells #[.int .i64 g.args, .int .i64 g.locals, .slice none 0 0] 36)) ∧ wq.heap.size ≤ Bo ∧ Hid (Kept wq wx))
      case first =>
        go_region
        all_goals go_wp2_with fail
        all_goals go_meet
        exact ⟨wq.heap.size, rfl, hide (lays_drew (lays_new rfl)), Nat.le_refl _, hide (((Kept.refl _).alloc _).drew)⟩
      case rest =>
        obtain ⟨Bo, rfl, HBO, hBo, HKx⟩ := hcut
        clear d0 d1 d0' d1'
        have hBx : Bo < wc.heap.size := (Array.getElem?_eq_some_iff.1 (unhide HBO)).1
        go_wp2
        go_loopw [11] (fun s11 wr => ∃ (k : Nat) (v : Value), k ≤ m ∧ s11 = .int .i64 k ∧ Hid (wr.heap[Bo]? = some (.cells #[.int .i64 g.args, .int .i64 g.locals, v] 36)) ∧ Hid (wr.ownsRow wc.heap.size 38 2 v (placeS H k) (flatOps (pick H (fun k => moveS H (g.code.getD k (0, 0))) k))) ∧ Hid (KeptX Bo wc wr)) (fun s11 _ => m - (intOf s11).toNat)
        case atStart => exact ⟨0, _, Nat.zero_le _, rfl, HBO, World.ownsRow_nil _ _ _ _, KeptX.refl _ _⟩
        case round =>
          obtain ⟨k, v, hkm, rfl, HV, HOW, HX⟩ := hrel
          have hK2 : Kept wq wr := KeptX.kept (unhide HKx) hBo (unhide HX)
          have hK02 : Kept w wr := (unhide HK01).trans ((unhide HKr).trans hK2)
          have d2 := hK02.cell (unhide C2)
          have hsx := (unhide HX).size
          by_cases hlt : k < m
          · obtain ⟨⟨kd, a⟩, hx⟩ : ∃ x, g.code[k]? = some x := ⟨_, List.getElem?_eq_getElem (by rw [← unhide HML]; exact hlt)⟩
            obtain ⟨x0, x1⟩ := (unhide HCELL) k _ hx
            have y0 := hK02.cell x0
            have y1 := hK02.cell x1
            simp only at y0 y1
            have hcd : g.code.getD k (0, 0) = (kd, a) := by simp [List.getD, hx]
            have hl0 := ((unhide HKr).trans hK2).cell ((unhide HHC) k hlt)
            have hTm : HeightsAt wr w1.heap.size (toL H m m) := (unhide HTM).kept hK2
            have hne : some Bo ≠ v.ownBlock := fun e => by have := trow_block (unhide HOW) Bo e.symm; omega
            have hple := placeS_le H k
            by_cases hjz : kd = 9 ∨ kd = 10
            · obtain ⟨t, ht, htm⟩ := (unhide HJ) k _ hx hjz
              simp only at ht
              subst ht
              have htm' : t < m := by have := unhide HML; omega
              have ht0 := (hTm.kept ((Kept.refl wr).alloc (.cells #[.int .i64 kd, .int .i64 (t : Int)] 38))).cell (k := t) (by rw [toL_len]; exact htm')
              rw [toL_at H htm'] at ht0
              have hmv : moveS H (kd, (t : Int)) = (kd, ((placeS H t : Nat) : Int)) := by unfold moveS; rw [if_pos hjz]; simp
              have HMV := hide hmv
              by_cases hs : 0 ≤ H.getD k 0
              · have hp1 : placeS H (k + 1) = placeS H k + 1 := placeS_succ hs
                have hp2 : pick H (fun k => moveS H (g.code.getD k (0, 0))) (k + 1) = pick H (fun k => moveS H (g.code.getD k (0, 0))) k ++ [moveS H (kd, (t : Int))] := by
                  conv => lhs; unfold pick
                  rw [if_pos hs, hcd]
                rw [hmv] at hp2
                have hfl := congrArg flatOps hp2
                rw [flatOps_snoc] at hfl
                have HP1 := hide hp1
                have HFL := hide hfl
                have hown6 := unhide HOW
                have hl1 : ∀ u, (wr.alloc (.cells #[.int .i64 kd, u] 38)).cell? ⟨bh, oh + k, none⟩ = some (.int .i64 (H.getD k 0)) := fun u => ((Kept.refl wr).alloc _).cell hl0
                have hv0 : ∀ u, (wr.alloc (.cells #[.int .i64 kd, u] 38)).cell? ⟨Bo, 2, none⟩ = some v := fun u => cell_lays (lays_alloc (unhide HV) _) 2
                obtain ⟨ov, cv, hve⟩ : ∃ ov cv, v = .slice ov (placeS H k) cv := by
                  rcases hown6.2 with ⟨e, h0⟩ | ⟨gg, cap, cur, e, _⟩
                  · exact ⟨none, 0, by rw [e, h0]⟩
                  · exact ⟨_, _, e⟩
                subst hve
                clear hp1 hp2 hfl hcd hx x0 x1 hmv hTm hl0
                generalize placeS H t = pt at *
                generalize H.getD k 0 = hz at hl1 hs
                generalize placeS H k = pk at *
                rcases hjz with rfl | rfl
                all_goals go_wp2_with (at_builtin; refine wpList_append_own _ rfl _ _ 34 rfl wc.heap.size 38 i0 (.agg #[.int .i64 0, .int .i64 0]) 2 16 Tryd.underlying34 hi0 hz0 hz1 hz2 rfl (by decide) _ _ _ rfl ((hown6.alloc _).alloc _) ⟨wr.heap.size + 1, 0, none⟩ 1 1 [.int .i64 _, .int .i64 (pt : Int)] rfl rfl (two_new _ _ _ _ _ (by simp)) (two_int _ _) (by unfold maxLen; omega) (by omega) (by simp; omega) ?_; intro v' w4 hown' hgrow _; obtain ⟨g4, cq4, hv'⟩ := ownsRow_slice (by omega) hown'; subst hv'; have hb4 := (hgrow.block Bo (by simp; omega) hne).trans (lays_alloc (lays_alloc (unhide HV) _) _); have e2 := cell_lays hb4 2; have z2 := frozen_lays hb4 2; simp only [List.getElem?_toArray, List.getElem?_cons_zero, List.getElem?_cons_succ] at e2; have HB4 := hide hb4; have HO4 := hide hown'; have HX4 := hide (KeptX.below (((unhide HX).alloc _).alloc _) (grown_below (by simp; omega) hgrow (trow_block hown6))); clear hb4 hown' hgrow)
                all_goals go_roundw
                case rel => exact ⟨k + 1, _, by omega, by go_num, lays_set (unhide HB4) 2 _, by rw [unhide HP1, unhide HFL]; exact ownsRow_setCell_below (unhide HO4) hBx _, (unhide HX4).setCell (p := ⟨Bo, 2, none⟩) (.inl rfl) _⟩
                case measure => simp [intOf]; omega
                case rel => exact ⟨k + 1, _, by omega, by go_num, lays_set (unhide HB4) 2 _, by rw [unhide HP1, unhide HFL]; exact ownsRow_setCell_below (unhide HO4) hBx _, (unhide HX4).setCell (p := ⟨Bo, 2, none⟩) (.inl rfl) _⟩
                case measure => simp [intOf]; omega
              · have hp1 : placeS H (k + 1) = placeS H k := by
                  conv => lhs; unfold placeS
                  rw [if_neg hs]
                have hp2 : pick H (fun k => moveS H (g.code.getD k (0, 0))) (k + 1) = pick H (fun k => moveS H (g.code.getD k (0, 0))) k := by
                  conv => lhs; unfold pick
                  rw [if_neg hs]
                have HP1 := hide hp1
                have HP2 := hide hp2
                have hl1 : ∀ u, (wr.alloc (.cells #[.int .i64 kd, u] 38)).cell? ⟨bh, oh + k, none⟩ = some (.int .i64 (H.getD k 0)) := fun u => ((Kept.refl wr).alloc _).cell hl0
                clear hp1 hp2 hcd hx x0 x1 hmv hTm hl0
                generalize placeS H t = pt at *
                generalize H.getD k 0 = hz at hl1 hs
                rcases hjz with rfl | rfl
                all_goals go_wp2
                all_goals go_roundw
                case rel => exact ⟨k + 1, _, by omega, by go_num, lays_alloc (unhide HV) _, by rw [unhide HP1, unhide HP2]; exact (unhide HOW).alloc _, (unhide HX).alloc _⟩
                case measure => simp [intOf]; omega
                case rel => exact ⟨k + 1, _, by omega, by go_num, lays_alloc (unhide HV) _, by rw [unhide HP1, unhide HP2]; exact (unhide HOW).alloc _, (unhide HX).alloc _⟩
                case measure => simp [intOf]; omega
            · have h9 : (kd == 9) = false := by rw [beq_eq_false_iff_ne]; intro e; exact hjz (.inl e)
              have h10 : (kd == 10) = false := by rw [beq_eq_false_iff_ne]; intro e; exact hjz (.inr e)
              have hmv : moveS H (kd, a) = (kd, a) := by unfold moveS; rw [if_neg hjz]
              by_cases hs : 0 ≤ H.getD k 0
              · have hp1 : placeS H (k + 1) = placeS H k + 1 := placeS_succ hs
                have hp2 : pick H (fun k => moveS H (g.code.getD k (0, 0))) (k + 1) = pick H (fun k => moveS H (g.code.getD k (0, 0))) k ++ [moveS H (kd, a)] := by
                  conv => lhs; unfold pick
                  rw [if_pos hs, hcd]
                rw [hmv] at hp2
                have hfl := congrArg flatOps hp2
                rw [flatOps_snoc] at hfl
                have HP1 := hide hp1
                have HFL := hide hfl
                have hown6 := unhide HOW
                have hl1 : ∀ u, (wr.alloc (.cells #[.int .i64 kd, u] 38)).cell? ⟨bh, oh + k, none⟩ = some (.int .i64 (H.getD k 0)) := fun u => ((Kept.refl wr).alloc _).cell hl0
                have hv0 : ∀ u, (wr.alloc (.cells #[.int .i64 kd, u] 38)).cell? ⟨Bo, 2, none⟩ = some v := fun u => cell_lays (lays_alloc (unhide HV) _) 2
                obtain ⟨ov, cv, hve⟩ : ∃ ov cv, v = .slice ov (placeS H k) cv := by
                  rcases hown6.2 with ⟨e, h0⟩ | ⟨gg, cap, cur, e, _⟩
                  · exact ⟨none, 0, by rw [e, h0]⟩
                  · exact ⟨_, _, e⟩
                subst hve
                clear hp1 hp2 hfl hcd hx x0 x1 hmv hTm hl0 hjz
                generalize H.getD k 0 = hz at hl1 hs
                generalize placeS H k = pk at *
                go_wp2_with (at_builtin; refine wpList_append_own _ rfl _ _ 34 rfl wc.heap.size 38 i0 (.agg #[.int .i64 0, .int .i64 0]) 2 16 Tryd.underlying34 hi0 hz0 hz1 hz2 rfl (by decide) _ _ _ rfl ((hown6.alloc _).alloc _) ⟨wr.heap.size + 1, 0, none⟩ 1 1 [.int .i64 _, .int .i64 a] rfl rfl (two_new _ _ _ _ _ (by simp)) (two_int _ _) (by unfold maxLen; omega) (by omega) (by simp; omega) ?_; intro v' w4 hown' hgrow _; obtain ⟨g4, cq4, hv'⟩ := ownsRow_slice (by omega) hown'; subst hv'; have hb4 := (hgrow.block Bo (by simp; omega) hne).trans (lays_alloc (lays_alloc (unhide HV) _) _); have e2 := cell_lays hb4 2; have z2 := frozen_lays hb4 2; simp only [List.getElem?_toArray, List.getElem?_cons_zero, List.getElem?_cons_succ] at e2; have HB4 := hide hb4; have HO4 := hide hown'; have HX4 := hide (KeptX.below (((unhide HX).alloc _).alloc _) (grown_below (by simp; omega) hgrow (trow_block hown6))); clear hb4 hown' hgrow)
                go_roundw
                case rel => exact ⟨k + 1, _, by omega, by go_num, lays_set (unhide HB4) 2 _, by rw [unhide HP1, unhide HFL]; exact ownsRow_setCell_below (unhide HO4) hBx _, (unhide HX4).setCell (p := ⟨Bo, 2, none⟩) (.inl rfl) _⟩
                case measure => simp [intOf]; omega
              · have hp1 : placeS H (k + 1) = placeS H k := by
                  conv => lhs; unfold placeS
                  rw [if_neg hs]
                have hp2 : pick H (fun k => moveS H (g.code.getD k (0, 0))) (k + 1) = pick H (fun k => moveS H (g.code.getD k (0, 0))) k := by
                  conv => lhs; unfold pick
                  rw [if_neg hs]
                have HP1 := hide hp1
                have HP2 := hide hp2
                have hl1 : ∀ u, (wr.alloc (.cells #[.int .i64 kd, u] 38)).cell? ⟨bh, oh + k, none⟩ = some (.int .i64 (H.getD k 0)) := fun u => ((Kept.refl wr).alloc _).cell hl0
                clear hp1 hp2 hcd hx x0 x1 hmv hTm hl0 hjz
                generalize H.getD k 0 = hz at hl1 hs
                go_wp2
                go_roundw
                case rel => exact ⟨k + 1, _, by omega, by go_num, lays_alloc (unhide HV) _, by rw [unhide HP1, unhide HP2]; exact (unhide HOW).alloc _, (unhide HX).alloc _⟩
                case measure => simp [intOf]; omega
          · have hke : k = H.length := by have := unhide HHL; omega
            have hO := unhide HOW
            rw [hke] at hO
            have hBw : w.heap.size < wq.heap.size := Nat.lt_of_lt_of_le (Array.getElem?_eq_some_iff.1 (unhide HB1)).1 (unhide HKr).size
            have hwc : w.heap.size < wc.heap.size := by omega
            have hcode : ∀ u0 u1 u2, CodeNew wc.heap.size (((wr.setCell ⟨w.heap.size, 0, none⟩ u0).setCell ⟨w.heap.size, 1, none⟩ u1).setCell ⟨w.heap.size, 2, none⟩ u2) v (trimC H g.code) := fun u0 u1 u2 =>
              codeAt_row (c := trimC H g.code) (ownsRow_setCell_below (ownsRow_setCell_below (ownsRow_setCell_below hO hwc u0) hwc u1) hwc u2) (trimC_len H g.code).symm (by rw [trimC_len]; have := placeS_le H H.length; have := unhide HHL; omega)
            obtain ⟨oa6, cp6, he6, _, _⟩ := hcode undef undef undef
            subst he6
            have hr1 := lays_kept ((unhide HKr).trans hK2) (unhide HB1)
            have f0 := cell_lays (unhide HV) 0
            have f1 := cell_lays (unhide HV) 1
            have f2 := cell_lays (unhide HV) 2
            have e0 := cell_lays hr1 0
            have e1 := cell_lays hr1 1
            have e2 := cell_lays hr1 2
            have z0 := frozen_lays hr1 0
            have z1 := frozen_lays hr1 1
            have z2 := frozen_lays hr1 2
            simp only [List.getElem?_toArray, List.getElem?_cons_zero, List.getElem?_cons_succ] at f0 f1 f2 e0 e1 e2
            have HCO := hide hcode
            have HR1 := hide hr1
            have HK2 := hide hK02
            clear hke hO hcode hr1 hK2 hK02 d2
            go_wp2
            have hl3 := lays_set (lays_set (lays_set (unhide HR1) 0 (.int .i64 g.args)) 1 (.int .i64 g.locals)) 2 (.slice oa6 (trimC H g.code).length cp6)
            have k0 := cell_lays hl3 0
            have k1 := cell_lays hl3 1
            have k2 := cell_lays hl3 2
            simp only [Array.setIfInBounds, List.size_toArray, List.length_cons, List.length_nil] at k0 k1 k2
            refine bodyPost_ret (v := .agg #[.int .i64 g.args, .int .i64 g.locals, .slice oa6 (trimC H g.code).length cp6]) (by simp [results, Tryd.results32, go_sem, k0, k1, k2]) rfl ?_
            exact ⟨_, rfl, ((unhide HCO) _ _ _).mono (Nat.le_of_lt hwc), (((unhide HK2).setCell (p := ⟨w.heap.size, 0, none⟩) (Nat.le_refl _) _).setCell (p := ⟨w.heap.size, 1, none⟩) (Nat.le_refl _) _).setCell (p := ⟨w.heap.size, 2, none⟩) (Nat.le_refl _) _⟩
theorem refTrimmed_any (p : List Fn) (v : Value) (k : Nat) (w : World) (hp : ProgAt w v p) (hz : chkS p k = 0) (hh : heightsS p (codeOf p k) = some (hgtL p k)) :
    Calls Tryd.prog 32 #[v, .int .i64 k] w fun e w' => TrimPost (trimF p k).args (trimF p k).locals (trimF p k).code w e w' := by
  obtain ⟨i, hi0, hi, hm, hr, hops⟩ := chkS_zero hz
  obtain rfl : k = i := by omega
  have hR : Right p (codeOf p k) := ⟨p.getD k Fn.zero, rfl, opsS_all hops⟩
  obtain ⟨hcons, _⟩ := heightsS_ok hR hh
  have hl : (hgtL p k).length = (p.getD k Fn.zero).code.length := hcons.len
  have hpos : 0 < (p.getD k Fn.zero).code.length := hcons.pos
  have hrh : ∀ u, Kept w u → Calls Tryd.prog 29 #[v, .int .i64 k] u fun e u' => ∃ v, e = .returned (.tuple #[v, .bool true]) ∧ IntsAt u' v (hgtL p k) ∧ Kept u u' := fun u hu => by
    refine (refHeights_at p v k u (hp.kept hu) hz).mono ?_
    rintro e u' ⟨x, h1, h2, h3⟩
    rw [hh] at h1 h2
    exact ⟨x, h1, h2, h3⟩
  obtain ⟨oa, cap, rfl, _, hcell⟩ := id hp
  obtain ⟨b, o, cv, rfl, c0, c1, c2, hc⟩ := hcell k _ (getD_of_lt p k Fn.zero hi)
  obtain ⟨oc, cc, rfl, _, hcc⟩ := id hc
  obtain ⟨bc, oc', rfl, _, _⟩ := hcc 0 _ (getD_of_lt _ 0 (0, 0) hpos)
  exact refTrimmed_go k b o _ cap bc oc' _ cc (hgtL p k) _ w hi c0 c1 c2 hc rfl hm hpos hl.symm (jumpsAll_of (opsS_all hops)) hrh
theorem heightsOf_bad (p : List Fn) (v : Value) (f : Int) (w : World) (hp : ProgAt w v p) (hz : chkS p f ≠ 0) :
    Calls Tryd.prog 31 #[v, .int .i64 f] w fun e w' => HgtPost p f w e w' := by
  obtain ⟨oa, cap, rfl, _, _⟩ := id hp
  have hz' : (chkS p f != 0) = true := by rw [bne_iff_ne]; exact hz
  have hr : hgtS p f = ([], chkS p f) := by unfold hgtS; rw [if_neg hz]
  have HR := hide hr
  have HP := hide hp
  clear hp hz hr
  go_enter Tryd.func31, Tryd.ntmps31
  go_wp2_with fail
  refine (funcError_any p _ f _ (unhide HP)).mono ?_
  rintro e w1 ⟨rfl, hk1⟩
  have H1 := hide hk1
  clear hk1
  generalize hc : chkS p f = r at *
  have HC := hide hc
  clear hc
  go_wp2
  go_ret2
  exact ⟨.slice none 0 0, by rw [unhide HR]; rfl, by rw [unhide HR]; exact IntsAt.nil _, unhide H1⟩
theorem heightsOf_go (p : List Fn) (g : Fn) (i b o cap : Nat) (oc : Option Addr) (m cc : Nat) (w : World) (hp : ProgAt w (.slice (some ⟨b, o, none⟩) p.length cap) p) (hi : i < p.length) (hg : p.getD i Fn.zero = g)
    (c2 : w.cell? ⟨b, o + i * 3 + 2, none⟩ = some (.slice oc m cc)) (hc : CodeAt w (.slice oc m cc) g.code) (hml : m = g.code.length) (hm : m ≤ 24) (hz : chkS p i = 0) (hops : opsS p g g.code = 0) :
    Calls Tryd.prog 31 #[.slice (some ⟨b, o, none⟩) p.length cap, .int .i64 i] w fun e w' => HgtPost p i w e w' := by
  have hgt : hgtS p i = match heightsS p g.code with | some H => (H, 0) | none => ([], 1) := by
    unfold hgtS
    rw [if_pos hz, Int.toNat_natCast, hg]
    rfl
  have hfe := funcError_any p (.slice (some ⟨b, o, none⟩) p.length cap) i w hp
  rw [hz] at hfe
  have hrf : ∀ u, Kept w u → Calls Tryd.prog 29 #[.slice (some ⟨b, o, none⟩) p.length cap, .int .i64 i] u fun e u' => RefPost p g.code u e u' :=
    fun u hu => refHeights_any p g i b o cap oc m cc u (hp.kept hu) hi (hu.cell c2) (hc.kept hu) hml hm (fun x hx => opsS_all hops x hx)
  have HGT := hide hgt
  have HFE := hide hfe
  have HRF := hide hrf
  clear hgt hfe hrf hp hg c2 hc hml hz hops
  go_enter Tryd.func31, Tryd.ntmps31
  go_wp2_with fail
  refine (unhide HFE).mono ?_
  rintro e w1 ⟨rfl, hk1⟩
  have H1 := hide hk1
  clear hk1
  go_wp2_with fail
  refine ((unhide HRF) _ (unhide H1)).mono ?_
  rintro e w2 ⟨u, rfl, hu, hk2⟩
  have H2 := hide ((unhide H1).trans hk2)
  have HU := hide hu
  clear hu hk2
  cases hh : heightsS p g.code with
  | none =>
    have HH := hide hh
    clear hh
    go_wp2
    go_ret2
    have hgt := unhide HGT
    rw [unhide HH] at hgt
    exact ⟨.slice none 0 0, by rw [hgt]; rfl, by rw [hgt]; exact IntsAt.nil _, unhide H2⟩
  | some H =>
    have HH := hide hh
    clear hh
    go_wp2
    go_ret2
    have hgt := unhide HGT
    rw [unhide HH] at hgt
    have hu := unhide HU
    rw [unhide HH] at hu
    exact ⟨u, by rw [hgt]; rfl, by rw [hgt]; exact hu, unhide H2⟩
theorem heightsOf_any (p : List Fn) (v : Value) (f : Int) (w : World) (hp : ProgAt w v p) :
    Calls Tryd.prog 31 #[v, .int .i64 f] w fun e w' => HgtPost p f w e w' := by
  by_cases hz : chkS p f = 0
  · obtain ⟨i, rfl, hi, hm, hr, hops⟩ := chkS_zero hz
    obtain ⟨oa, cap, rfl, hl, hcell⟩ := id hp
    obtain ⟨b, o, cv, rfl, c0, c1, c2, hc⟩ := hcell i _ (getD_of_lt p i Fn.zero hi)
    obtain ⟨oc, cc, rfl, _, _⟩ := id hc
    exact heightsOf_go p _ i b o cap oc _ cc w hp hi rfl c2 hc rfl hm hz hops
  · exact heightsOf_bad p v f w hp hz
theorem refTrimFunc_bad (p : List Fn) (v : Value) (f : Int) (w : World) (hp : ProgAt w v p) (hz : (hgtS p f).2 ≠ 0) :
    Calls Tryd.prog 17 #[v, .int .i64 f] w fun e w' => TfPost Fn.zero (hgtS p f).2 w e w' := by
  obtain ⟨oa, cap, rfl, _, _⟩ := id hp
  have hz' : ((hgtS p f).2 != 0) = true := by rw [bne_iff_ne]; exact hz
  have hha := heightsOf_any p _ f (w.alloc (.cells #[.int .i64 0, .int .i64 0, .slice none 0 0] 36)) (hp.kept ((Kept.refl w).alloc _))
  unfold HgtPost at hha
  generalize (hgtS p f).2 = r at *
  generalize (hgtS p f).1 = l at *
  have HHA := hide hha
  clear hp hz hha
  go_enter Tryd.func17, Tryd.ntmps17
  go_wp2_with fail
  refine (unhide HHA).mono ?_
  rintro e w1 ⟨u1, rfl, _, hk1⟩
  have l1 := lays_kept hk1 (lays_new (b := w.heap.size) (o := .cells #[.int .i64 0, .int .i64 0, .slice none 0 0] 36) rfl)
  have e0 := cell_lays l1 0
  have e1 := cell_lays l1 1
  have e2 := cell_lays l1 2
  have z0 := frozen_lays l1 0
  have z1 := frozen_lays l1 1
  have z2 := frozen_lays l1 2
  simp only [List.getElem?_toArray, List.getElem?_cons_zero, List.getElem?_cons_succ] at e0 e1 e2
  have H1 := hide (((Kept.refl w).alloc _).trans hk1)
  have L1 := hide l1
  clear hk1 HHA l1
  go_wp2
  have hl3 := lays_set (lays_set (lays_set (unhide L1) 0 (.int .i64 0)) 1 (.int .i64 0)) 2 (.slice none 0 0)
  have k0 := cell_lays hl3 0
  have k1 := cell_lays hl3 1
  have k2 := cell_lays hl3 2
  simp only [Array.setIfInBounds, List.size_toArray, List.length_cons, List.length_nil] at k0 k1 k2
  refine bodyPost_ret (v := .tuple #[.agg #[.int .i64 0, .int .i64 0, .slice none 0 0], .int .i64 r]) (by simp [results, Tryd.results17, go_sem, k0, k1, k2]) rfl ?_
  exact ⟨.slice none 0 0, rfl, CodeNew.nil _ _, (((unhide H1).setCell (p := ⟨w.heap.size, 0, none⟩) (Nat.le_refl _) _).setCell (p := ⟨w.heap.size, 1, none⟩) (Nat.le_refl _) _).setCell (p := ⟨w.heap.size, 2, none⟩) (Nat.le_refl _) _⟩
theorem refTrimFunc_go (p : List Fn) (v : Value) (i : Nat) (w : World) (hp : ProgAt w v p) (hz : chkS p i = 0) (hh : heightsS p (codeOf p i) = some (hgtL p i)) (hH : hgtS p i = (hgtL p i, 0)) :
    Calls Tryd.prog 17 #[v, .int .i64 i] w fun e w' => TfPost (trimF p i) 0 w e w' := by
  obtain ⟨oa, cap, rfl, _, _⟩ := id hp
  have hha := heightsOf_any p _ i (w.alloc (.cells #[.int .i64 0, .int .i64 0, .slice none 0 0] 36)) (hp.kept ((Kept.refl w).alloc _))
  unfold HgtPost at hha
  rw [hH] at hha
  have hrt : ∀ u, Kept w u → Calls Tryd.prog 32 #[.slice oa p.length cap, .int .i64 i] u fun e w' => TrimPost (trimF p i).args (trimF p i).locals (trimF p i).code u e w' := fun u hu => refTrimmed_any p _ i u (hp.kept hu) hz hh
  generalize trimF p i = g at *
  have HHA := hide hha
  have HRT := hide hrt
  clear hp hz hh hH hha hrt
  go_enter Tryd.func17, Tryd.ntmps17
  go_wp2_with fail
  refine (unhide HHA).mono ?_
  rintro e w1 ⟨u1, rfl, _, hk1⟩
  have l1 := lays_kept hk1 (lays_new (b := w.heap.size) (o := .cells #[.int .i64 0, .int .i64 0, .slice none 0 0] 36) rfl)
  have H1 := hide (((Kept.refl w).alloc _).trans hk1)
  have L1 := hide l1
  clear hk1 HHA l1
  go_wp2_with fail
  refine ((unhide HRT) _ (unhide H1)).mono ?_
  rintro e w2 ⟨cv, rfl, hcv, hk2⟩
  have l2 := lays_kept hk2 (unhide L1)
  have e0 := cell_lays l2 0
  have e1 := cell_lays l2 1
  have e2 := cell_lays l2 2
  have z0 := frozen_lays l2 0
  have z1 := frozen_lays l2 1
  have z2 := frozen_lays l2 2
  simp only [List.getElem?_toArray, List.getElem?_cons_zero, List.getElem?_cons_succ] at e0 e1 e2
  have H2 := hide ((unhide H1).trans hk2)
  have L2 := hide l2
  have hsz : w.heap.size < w1.heap.size := (Array.getElem?_eq_some_iff.1 (unhide L1)).1
  obtain ⟨oa6, cp6, he6, _, _⟩ := id hcv
  subst he6
  have HCV := hide hcv
  clear hk2 HRT l2 hcv
  go_wp2
  have hl3 := lays_set (lays_set (lays_set (unhide L2) 0 (.int .i64 g.args)) 1 (.int .i64 g.locals)) 2 (.slice oa6 g.code.length cp6)
  have k0 := cell_lays hl3 0
  have k1 := cell_lays hl3 1
  have k2 := cell_lays hl3 2
  simp only [Array.setIfInBounds, List.size_toArray, List.length_cons, List.length_nil] at k0 k1 k2
  refine bodyPost_ret (v := .tuple #[.agg #[.int .i64 g.args, .int .i64 g.locals, .slice oa6 g.code.length cp6], .int .i64 0]) (by simp [results, Tryd.results17, go_sem, k0, k1, k2]) rfl ?_
  refine ⟨_, rfl, ?_, (((unhide H2).setCell (p := ⟨w.heap.size, 0, none⟩) (Nat.le_refl _) _).setCell (p := ⟨w.heap.size, 1, none⟩) (Nat.le_refl _) _).setCell (p := ⟨w.heap.size, 2, none⟩) (Nat.le_refl _) _⟩
  refine CodeNew.mono (N := w1.heap.size) ((unhide HCV).keptX hsz ?_) (Nat.le_of_lt hsz)
  exact (((KeptX.refl w.heap.size _).setCell (p := ⟨w.heap.size, 0, none⟩) (.inl rfl) _).setCell (p := ⟨w.heap.size, 1, none⟩) (.inl rfl) _).setCell (p := ⟨w.heap.size, 2, none⟩) (.inl rfl) _
theorem refTrimFunc_any (p : List Fn) (v : Value) (f : Int) (w : World) (hp : ProgAt w v p) :
    Calls Tryd.prog 17 #[v, .int .i64 f] w fun e w' => TfPost (tfS p f).1 (tfS p f).2 w e w' := by
  by_cases hz : (hgtS p f).2 = 0
  · obtain ⟨i, rfl, hck, hh, hg⟩ := hgtS_right hz
    have ht : tfS p i = (trimF p i, 0) := by unfold tfS; rw [if_pos hz, Int.toNat_natCast]
    rw [ht]
    exact refTrimFunc_go p v i w hp hck hh hg
  · have ht : tfS p f = (Fn.zero, (hgtS p f).2) := by unfold tfS; rw [if_neg hz]
    rw [ht]
    exact refTrimFunc_bad p v f w hp hz
def CodeOff (r : Option Nat) (w : World) (v : Value) (c : List (Int × Int)) : Prop :=
  ∃ oa cap, v = .slice oa c.length cap ∧ c.length ≤ 8796093022208 ∧ ∀ i x, c[i]? = some x → ∃ b o, oa = some ⟨b, o, none⟩ ∧ some b ≠ r ∧
    w.cell? ⟨b, o + i * 2, none⟩ = some (.int .i64 x.1) ∧ w.cell? ⟨b, o + i * 2 + 1, none⟩ = some (.int .i64 x.2)
theorem CodeNew.off {N : Nat} {w : World} {v : Value} {c : List (Int × Int)} (h : CodeNew N w v c) {r : Option Nat} (hr : ∀ g, r = some g → g < N) : CodeOff r w v c := by
  obtain ⟨oa, cap, e, hl, hi⟩ := h
  refine ⟨oa, cap, e, hl, fun i x hx => ?_⟩
  obtain ⟨b, o, e1, hb, h1, h2⟩ := hi i x hx
  exact ⟨b, o, e1, fun e => by have := hr b e.symm; omega, h1, h2⟩
theorem CodeOff.code {r : Option Nat} {w : World} {v : Value} {c : List (Int × Int)} (h : CodeOff r w v c) : CodeAt w v c := by
  obtain ⟨oa, cap, e, hl, hi⟩ := h
  refine ⟨oa, cap, e, hl, fun i x hx => ?_⟩
  obtain ⟨b, o, e1, _, h1, h2⟩ := hi i x hx
  exact ⟨b, o, e1, h1, h2⟩
theorem CodeOff.kept {r : Option Nat} {w w' : World} {v : Value} {c : List (Int × Int)} (h : CodeOff r w v c) (k : Kept w w') : CodeOff r w' v c := by
  obtain ⟨oa, cap, e, hl, hi⟩ := h
  refine ⟨oa, cap, e, hl, fun i x hx => ?_⟩
  obtain ⟨b, o, e1, hb, h1, h2⟩ := hi i x hx
  exact ⟨b, o, e1, hb, k.cell h1, k.cell h2⟩
theorem CodeOff.grown {r r' : Option Nat} {w w' : World} {v : Value} {c : List (Int × Int)} (h : CodeOff r w v c) (hg : w.grownBy w' r) (hr : r' = r ∨ r' = some w.heap.size) : CodeOff r' w' v c := by
  obtain ⟨oa, cap, e, hl, hi⟩ := h
  refine ⟨oa, cap, e, hl, fun i x hx => ?_⟩
  obtain ⟨b, o, e1, hb, h1, h2⟩ := hi i x hx
  have hlt : b < w.heap.size := cell_lt h1
  refine ⟨b, o, e1, ?_, (World.cell?_of_block (w := w) (hg.block b hlt hb)).trans h1, (World.cell?_of_block (w := w) (hg.block b hlt hb)).trans h2⟩
  rcases hr with rfl | rfl
  · exact hb
  · intro e; simp at e; omega
theorem three_new (w : World) (a b : Int) (c : Value) (t : TypeId) (n : Nat) (hn : w.heap.size = n) : ∀ j u, [Value.int .i64 a, Value.int .i64 b, c][j]? = some u → (w.alloc (.cells #[.int .i64 a, .int .i64 b, c] t)).cell? ((⟨n, 0, none⟩ : Addr).add j) = some u := by
  subst hn
  intro j u hj
  match j, hj with
  | 0, hj => simp at hj; subst hj; exact cell_lays (lays_new rfl) 0
  | 1, hj => simp at hj; subst hj; exact cell_lays (lays_new rfl) 1
  | 2, hj => simp at hj; subst hj; exact cell_lays (lays_new rfl) 2
  | j + 3, hj => simp at hj
theorem three_one (a b : Int) (oa : Option Addr) (l c : Nat) : ∀ u, u ∈ [Value.int .i64 a, Value.int .i64 b, .slice oa l c] → u.oneCell' = true := by
  intro u hu
  simp only [List.mem_cons, List.not_mem_nil, or_false] at hu
  rcases hu with rfl | rfl | rfl <;> rfl
theorem row_kept {w w' : World} {base : Nat} {e : TypeId} {size : Nat} {v : Value} {n : Nat} {xs : List Value} (h : w.ownsRow base e size v n xs) (k : Kept w w') : w'.ownsRow base e size v n xs := by
  obtain ⟨h1, h2 | ⟨g, cap, cur, hv, hb, hh, r⟩⟩ := h
  · exact ⟨h1, .inl h2⟩
  · exact ⟨h1, .inr ⟨g, cap, cur, hv, hb, lays_kept k hh, r⟩⟩
theorem row_lt {w : World} {base : Nat} {e : TypeId} {size : Nat} {v : Value} {n : Nat} {xs : List Value} (h : w.ownsRow base e size v n xs) : ∀ g, v.ownBlock = some g → g < w.heap.size := by
  intro g hg
  obtain ⟨_, ⟨rfl, _⟩ | ⟨g', cap, cur, rfl, _, hh, _⟩⟩ := h
  · cases hg
  · cases hg; exact (Array.getElem?_eq_some_iff.1 hh).1
theorem flatFns_snoc (l : List (Fn × Value)) (x : Fn × Value) : flatFns (l ++ [x]) = flatFns l ++ [.int .i64 x.1.args, .int .i64 x.1.locals, x.2] := by simp [flatFns]
theorem progAt_row {w : World} {base : Nat} {v : Value} {n : Nat} {l : List (Fn × Value)} (h : w.ownsRow base 36 3 v n (flatFns l)) (hn : n = l.length) (hl : l.length ≤ 8796093022208) (hc : ∀ x, x ∈ l → CodeAt w x.2 x.1.code) {q : List Fn} (hq : q = l.map (·.1)) : ProgAt w v q := by
  subst hn hq
  obtain ⟨hlen, ⟨rfl, h0⟩ | ⟨g, cap, cur, rfl, hb, hh, _, _, hs, ht⟩⟩ := h
  · have : l = [] := List.length_eq_zero_iff.1 h0
    subst this
    exact ⟨none, 0, rfl, by simp, fun i x hx => by simp at hx⟩
  · refine ⟨_, cap, by rw [List.length_map], by simpa using hl, fun i f hf => ?_⟩
    rw [List.getElem?_map, Option.map_eq_some_iff] at hf
    obtain ⟨x, hx, rfl⟩ := hf
    have hi := (List.getElem?_eq_some_iff.1 hx).1
    obtain ⟨f1, f2, f3⟩ := flatFns_at l i x hx
    rw [← ht, List.getElem?_take, if_pos (by omega)] at f1 f2 f3
    refine ⟨g, 0, x.2, rfl, ?_, ?_, ?_, hc x (List.mem_of_getElem? hx)⟩
    · rw [cell_lays hh]; simpa using f1
    · rw [cell_lays hh]; simpa using f2
    · rw [cell_lays hh]; simpa using f3
theorem refTrimAll_bad (p : List Fn) (v : Value) (w : World) (hp : ProgAt w v p) (hz : progS p ≠ 0) :
    Calls Tryd.prog 18 #[v] w fun e w' => TaPost p w e w' := by
  obtain ⟨oa, cap, rfl, _, _⟩ := id hp
  have hz' : (progS p != 0) = true := by rw [bne_iff_ne]; exact hz
  have ht : taS p = [] := by unfold taS; rw [if_neg hz]
  have hck := progError_any p _ w hp
  have HCK := hide hck
  unfold TaPost
  rw [ht]
  generalize progS p = r at *
  clear hp hz hck ht
  go_enter Tryd.func18, Tryd.ntmps18
  go_wp2_with fail
  refine (unhide HCK).mono ?_
  rintro e w1 ⟨rfl, hk1⟩
  have H1 := hide hk1
  clear hk1 HCK
  go_wp2
  go_ret2
  exact ⟨.slice none 0 0, rfl, nilProg _, unhide H1⟩
theorem refTrimAll_go (p : List Fn) (oa : Option Addr) (n cap : Nat) (w : World) (hn : n = p.length) (hp : ProgAt w (.slice oa n cap) p) (hz : progS p = 0) :
    Calls Tryd.prog 18 #[.slice oa n cap] w fun e w' => TaPost p w e w' := by
  obtain ⟨hn5, hn0, hright⟩ := progS_right hz
  have ht : taS p = trimP p := by unfold taS; rw [if_pos hz]
  have hrt : ∀ u, Kept w u → ∀ k : Nat, k < n → Calls Tryd.prog 32 #[.slice oa n cap, .int .i64 k] u fun e w' => TrimPost (trimF p k).args (trimF p k).locals (trimF p k).code u e w' :=
    fun u hu k hk => refTrimmed_any p _ k u (hp.kept hu) (hright k (by omega)) (progS_heights hz (by omega))
  have hck := progError_any p _ w hp
  obtain ⟨i0, hi0, hz0, hz1, hz2⟩ := info_parts infoFun
  rw [hz] at hck
  unfold TaPost
  rw [ht, hz]
  have hn5n : n ≤ 5 := by omega
  have HCK := hide hck
  have HN := hide hn
  have HRT := hide hrt
  clear hp hz hck hn ht hrt hn0 hright
  go_enter Tryd.func18, Tryd.ntmps18
  go_wp2_with fail
  refine (unhide HCK).mono ?_
  rintro e w1 ⟨rfl, hk1⟩
  have H1 := hide hk1
  clear hk1 HCK
  go_wp2
  go_loopw [5, 6] (fun s5 s6 wr => ∃ (k : Nat) (l : List (Fn × Value)), k ≤ n ∧ s6 = .int .i64 k ∧ Hid (wr.ownsRow w1.heap.size 36 3 s5 k (flatFns l)) ∧ Hid (l.map (·.1) = (List.range k).map (trimF p)) ∧ Hid (∀ x, x ∈ l → CodeOff s5.ownBlock wr x.2 x.1.code) ∧ Hid (Kept w1 wr)) (fun _ s6 _ => n - (intOf s6).toNat)
  case atStart => exact ⟨0, [], Nat.zero_le _, rfl, World.ownsRow_nil _ _ _ _, rfl, (fun x hx => by cases hx), Kept.refl _⟩
  case round =>
    obtain ⟨k, l, hkm, rfl, HOW, HL, HC, HKr⟩ := hrel
    by_cases hlt : k < n
    · have hfc := (unhide HRT) _ ((unhide H1).trans (unhide HKr)) k hlt
      have hown5 := unhide HOW
      have hll : l.length = k := by have := congrArg List.length (unhide HL); simpa using this
      have hLs : ∀ cv : Value, (l ++ [(trimF p k, cv)]).map (fun x : Fn × Value => x.1) = (List.range (k + 1)).map (trimF p) := fun (cv : Value) => by
        rw [List.map_append, unhide HL, List.range_succ, List.map_append]; rfl
      have HFC := hide hfc
      have HLS := hide hLs
      have HLL := hide hll
      clear hfc hLs hll
      generalize trimF p k = g at *
      go_wp2_with fail
      refine (unhide HFC).mono ?_
      rintro e w2 ⟨cv, rfl, hcv, hk2⟩
      obtain ⟨oa6, cp6, he6, _, _⟩ := id hcv
      subst he6
      have hrw : w2.ownsRow w1.heap.size 36 3 _ k (flatFns l) := row_kept hown5 hk2
      have hnewc := (hcv.off (row_lt hown5)).kept ((Kept.refl w2).alloc (.cells #[.int .i64 g.args, .int .i64 g.locals, .slice oa6 g.code.length cp6] 36))
      have holdc : ∀ x, x ∈ l → CodeOff _ (w2.alloc (.cells #[.int .i64 g.args, .int .i64 g.locals, .slice oa6 g.code.length cp6] 36)) x.2 x.1.code := fun x hx => (((unhide HC) x hx).kept hk2).kept ((Kept.refl w2).alloc _)
      have hb2 : w1.heap.size ≤ w2.heap.size := Nat.le_trans (unhide HKr).size hk2.size
      have HNC := hide hnewc
      have HOC := hide holdc
      have HK2 := hide (((unhide HKr).trans hk2).alloc (.cells #[.int .i64 g.args, .int .i64 g.locals, .slice oa6 g.code.length cp6] 36))
      clear hnewc holdc hcv hk2 HFC
      go_wp2_with (at_builtin; refine wpList_append_own_at _ rfl _ _ 22 rfl w1.heap.size 36 i0 (.agg #[.int .i64 0, .int .i64 0, .slice none 0 0]) 3 40 Tryd.underlying22 hi0 hz0 hz1 hz2 rfl (by decide) _ _ _ rfl (hrw.alloc _) ⟨w2.heap.size, 0, none⟩ 1 1 [.int .i64 g.args, .int .i64 g.locals, .slice oa6 g.code.length cp6] rfl rfl (three_new _ _ _ _ _ _ rfl) (three_one _ _ _ _ _) (by unfold maxLen; omega) (by omega) (by simp; omega) ?_; intro v' w3 hown' hgrow _ hat)
      have HO3 : Hid (w3.ownsRow w1.heap.size 36 3 v' (k + 1) (flatFns (l ++ [(g, .slice oa6 g.code.length cp6)]))) := by rw [flatFns_snoc]; exact hown'
      have HC3 : Hid (∀ x, x ∈ l ++ [(g, .slice oa6 g.code.length cp6)] → CodeOff v'.ownBlock w3 x.2 x.1.code) := by
        intro x hx
        rcases List.mem_append.1 hx with hx | hx
        · exact ((unhide HOC) x hx).grown hgrow hat
        · simp only [List.mem_cons, List.not_mem_nil, or_false] at hx
          subst hx
          exact (unhide HNC).grown hgrow hat
      have HK3 := hide (Below.grown (unhide HK2) hgrow (by simp; omega) (trow_block hrw))
      clear hown' hgrow hat hrw hown5
      go_roundw
      case rel => exact ⟨k + 1, _, by omega, by go_num, HO3, (unhide HLS) _, HC3, HK3⟩
      case measure => simp [intOf]; omega
    · have hke : k = p.length := by have := unhide HN; omega
      have hll : l.length = k := by have := congrArg List.length (unhide HL); simpa using this
      have hL := unhide HL
      rw [hke] at hL
      have hpr : ProgAt wr _ (trimP p) := progAt_row (unhide HOW) hll.symm (by omega) (fun x hx => ((unhide HC) x hx).code) (q := trimP p) hL.symm
      have HPR := hide hpr
      clear hke hll hL hpr
      go_wp2
      go_ret2
      exact ⟨_, rfl, unhide HPR, (unhide H1).trans (unhide HKr)⟩
theorem refTrimAll_any (p : List Fn) (v : Value) (w : World) (hp : ProgAt w v p) :
    Calls Tryd.prog 18 #[v] w fun e w' => TaPost p w e w' := by
  by_cases hz : progS p = 0
  · obtain ⟨oa, cap, rfl, _, _⟩ := id hp
    exact refTrimAll_go p oa _ cap w rfl hp hz
  · exact refTrimAll_bad p v w hp hz
theorem sameFuncs_same (ar lo : Int) (c : List (Int × Int)) (cv1 cv2 : Value) (w : World) (h1 : CodeAt w cv1 c) (h2 : CodeAt w cv2 c) :
    Calls Tryd.prog 20 #[.agg #[.int .i64 ar, .int .i64 lo, cv1], .agg #[.int .i64 ar, .int .i64 lo, cv2]] w fun e w' => e = .returned (.bool true) ∧ Kept w w' := by
  obtain ⟨oa1, cap1, rfl, hl8, i1⟩ := h1
  obtain ⟨oa2, cap2, rfl, _, i2⟩ := h2
  have hn1 : (ar != ar) = false := by simp
  have hn2 : (lo != lo) = false := by simp
  have hn3 : ((c.length : Int) != (c.length : Int)) = false := by simp
  generalize hm : c.length = m at *
  have HI1 := hide i1
  have HI2 := hide i2
  have HM := hide hm
  clear i1 i2 hm
  go_enter Tryd.func20, Tryd.ntmps20
  go_wp2
  have L0 : Hid (((w.alloc (.cells #[.int .i64 ar, .int .i64 lo, .slice oa1 m cap1] 36)).alloc (.cells #[.int .i64 ar, .int .i64 lo, .slice oa2 m cap2] 36)).heap[w.heap.size]? = _) := hide (lays_alloc (lays_new rfl) _)
  have L1 : Hid (((w.alloc (.cells #[.int .i64 ar, .int .i64 lo, .slice oa1 m cap1] 36)).alloc (.cells #[.int .i64 ar, .int .i64 lo, .slice oa2 m cap2] 36)).heap[w.heap.size + 1]? = _) := hide (lays_new (by simp))
  generalize hW : (w.alloc (.cells #[.int .i64 ar, .int .i64 lo, .slice oa1 m cap1] 36)).alloc (.cells #[.int .i64 ar, .int .i64 lo, .slice oa2 m cap2] 36) = W at *
  have HKW : Hid (Kept w W) := by rw [← hW]; exact ((Kept.refl w).alloc _).alloc _
  clear hW
  go_loopw [5] (fun s wr => ∃ k : Nat, k ≤ m ∧ s = .int .i64 k ∧ Hid (Kept W wr)) (fun s _ => m - (intOf s).toNat)
  case atStart => exact ⟨0, Nat.zero_le _, rfl, Kept.refl _⟩
  case round =>
    obtain ⟨k, hkm, rfl, HKr⟩ := hrel
    have b0 := cell_lays (lays_kept (unhide HKr) (unhide L0)) 2
    have b1 := cell_lays (lays_kept (unhide HKr) (unhide L1)) 2
    simp only [List.getElem?_toArray, List.getElem?_cons_zero, List.getElem?_cons_succ] at b0 b1
    by_cases hlt : k < m
    · obtain ⟨⟨kd, a⟩, hx⟩ : ∃ x, c[k]? = some x := ⟨_, List.getElem?_eq_getElem (by rw [unhide HM]; exact hlt)⟩
      obtain ⟨p1, o1, rfl, x0, x1⟩ := (unhide HI1) k _ hx
      obtain ⟨p2, o2, rfl, y0, y1⟩ := (unhide HI2) k _ hx
      have hk := (unhide HKW).trans (unhide HKr)
      have x0' := hk.cell x0
      have x1' := hk.cell x1
      have y0' := hk.cell y0
      have y1' := hk.cell y1
      simp only at x0' x1' y0' y1'
      clear hk x0 x1 y0 y1 hx
      go_wp2
      go_quiet (fail)
      go_wp2
      go_roundw
      case rel => exact ⟨k + 1, by omega, by go_num, (unhide HKr).drewN _⟩
      case measure => simp [intOf]; omega
    · go_wp2
      go_ret
      exact ⟨rfl, (unhide HKW).trans (unhide HKr)⟩
theorem one_prog {w : World} {b0 b n : Nat} {c : List (Int × Int)} {A : Array Value} (h0 : w.heap[b0]? = some (.cells A 38)) (hA : A = (flatOps c).toArray) (hl : c.length ≤ 8796093022208) (hn : n = c.length)
    (h : w.heap[b]? = some (.cells #[.int .i64 0, .int .i64 0, .slice (some ⟨b0, 0, none⟩) n n] 36)) : ProgAt w (.slice (some ⟨b, 0, none⟩) 1 1) [⟨0, 0, c⟩] := by
  refine progAt_block h [(⟨0, 0, c⟩, .slice (some ⟨b0, 0, none⟩) n n)] rfl (by simp) ?_ 1 1 rfl _ rfl
  intro x hx
  simp only [List.mem_cons, List.not_mem_nil, or_false] at hx
  subst hx
  exact codeAt_block h0 c hA hl n n hn
theorem trimFunc_is (p : List Fn) (v : Value) (f : Int) (ar lo : Int) (c : List (Int × Int)) (er : Int) (w : World) (hp : ProgAt w v p) (hk : KindsAt w) (h1 : (tfS p f).1.args = ar) (h2 : (tfS p f).1.locals = lo) (h3 : (tfS p f).1.code = c) (h4 : (tfS p f).2 = er) :
    Calls Tryd.prog 15 #[v, .int .i64 f] w fun e w' => ∃ oc cc, e = .returned (.tuple #[.agg #[.int .i64 ar, .int .i64 lo, .slice oc c.length cc], .int .i64 er]) ∧ CodeAt w' (.slice oc c.length cc) c ∧ Kept w w' := by
  refine (trimFunc_any p v f w hp hk).mono ?_
  rintro e w' ⟨cv, rfl, hc, hk'⟩
  rw [h1, h2, h4]
  rw [h3] at hc
  obtain ⟨oc, cc, rfl, _⟩ := id hc
  exact ⟨oc, cc, rfl, hc.code, hk'⟩
theorem trimBegun_any (w : World) (hk : KindsAt w) :
    Calls Tryd.prog 19 #[] w fun e w' => e = .returned (.bool true) ∧ Kept w w' := by
  have HK := hide hk
  clear hk
  go_enter Tryd.func19, Tryd.ntmps19
  go_wp2_with fail
  refine (count_any _).mono ?_
  rintro e w1 ⟨v1, rfl, hc1, hk1⟩
  have H1 : Hid (Kept w w1) := hk1
  have C1 := hide hc1
  clear hc1 hk1
  go_wp2_with fail
  refine (trimFunc_is cntL _ _ 1 1 (cnt1.take 10) 0 _ (unhide C1).prog ((unhide HK).kept H1.out) (by decide +kernel) (by decide +kernel) (by decide +kernel) (by decide +kernel)).mono ?_
  rintro e w2 ⟨oc2, cc2, rfl, hjunk, hk2⟩
  clear hjunk
  have H2 : Hid (Kept w w2) := H1.out.trans hk2
  clear hk2 H1 C1
  simp only [show (cnt1.take 10).length = 10 from rfl]
  go_wp2_with fail
  refine (count_any _).mono ?_
  rintro e w3 ⟨v3, rfl, hc3, hk3⟩
  have X3 : Hid (w3.heap[w2.heap.size]? = some (.cells #[.int .i64 1, .int .i64 1, .slice oc2 10 cc2] 36)) := lays_kept hk3 (lays_new rfl)
  have H3 : Hid (Kept w w3) := (H2.out.alloc _).trans hk3
  have C3 := hide hc3
  clear hc3 hk3 H2
  go_wp2_with fail
  refine (trimAll_any cntL _ _ (unhide C3).prog ((unhide HK).kept H3.out)).mono ?_
  rintro e w4 ⟨v4, rfl, hp4, hk4⟩
  obtain ⟨oa4, cap4, rfl, hj1, hj2⟩ := hp4
  clear hj1 hj2
  have X4 : Hid (w4.heap[w2.heap.size]? = some (.cells #[.int .i64 1, .int .i64 1, .slice oc2 10 cc2] 36)) := lays_kept hk4 (unhide X3)
  have H4 : Hid (Kept w w4) := H3.out.trans hk4
  clear hk4 H3 C3 X3
  rw [show progS cntL = 0 by decide +kernel, show (taS cntL).length = 3 by decide +kernel]
  go_wp2_with (go_at_call 33; refine (o_any _ _ _).mono ?_; rintro e w' ⟨rfl, rfl⟩)
  refine (trimFunc_is [⟨0, 0, [(9, 2), (1, 0), (0, 1), (12, 0)]⟩] _ _ 0 0 [(9, 1), (0, 1), (12, 0)] 0 _ ?_ ((unhide HK).kept ((((((H4.out.alloc _).alloc _).alloc _).alloc _).alloc _).alloc _)) (by decide +kernel) (by decide +kernel) (by decide +kernel) (by decide +kernel)).mono ?_
  · exact one_prog (b0 := w4.heap.size + 1 + 1 + 1 + 1) (b := w4.heap.size + 1 + 1 + 1 + 1 + 1) (lays_alloc (lays_new (by simp)) _) rfl (by decide) rfl (lays_new (by simp))
  rintro e w5 ⟨oc5, cc5, rfl, hc5, hk5⟩
  have hk45 : Kept w4 w5 := ((((((Kept.refl w4).alloc _).alloc _).alloc _).alloc _).alloc _).alloc _ |>.trans hk5
  have X5 : Hid (w5.heap[w2.heap.size]? = some (.cells #[.int .i64 1, .int .i64 1, .slice oc2 10 cc2] 36)) := lays_kept hk45 (unhide X4)
  have H5 : Hid (Kept w w5) := H4.out.trans hk45
  have Y5 := hide hc5
  clear hk5 hk45 H4 X4 hc5
  simp only [List.length_cons, List.length_nil, Nat.zero_add, Nat.reduceAdd]
  go_wp2_with fail
  refine (count_any _).mono ?_
  rintro e w6 ⟨v6, rfl, hc6, hk6⟩
  have hk56 : Kept w5 w6 := ((Kept.refl w5).alloc _).trans hk6
  have X6 : Hid (w6.heap[w2.heap.size]? = some (.cells #[.int .i64 1, .int .i64 1, .slice oc2 10 cc2] 36)) := lays_kept hk56 (unhide X5)
  have Z6 : Hid (w6.heap[w5.heap.size]? = some (.cells #[.int .i64 0, .int .i64 0, .slice oc5 3 cc5] 36)) := lays_kept hk6 (lays_new rfl)
  have H6 : Hid (Kept w w6) := H5.out.trans hk56
  have Y6 := hide ((unhide Y5).kept hk56)
  have C6 := hide hc6
  clear hk6 hk56 H5 X5 Y5 hc6
  go_wp2_with fail
  refine (trimFunc_is cntL _ _ 0 0 [] 5 _ (unhide C6).prog ((unhide HK).kept H6.out) (by decide +kernel) (by decide +kernel) (by decide +kernel) (by decide +kernel)).mono ?_
  rintro e w7 ⟨oc7, cc7, rfl, hjunk, hk7⟩
  clear hjunk
  have hk67 := hk7.alloc (.cells #[.int .i64 0, .int .i64 0, .slice oc7 0 cc7] 36)
  simp only [List.length_nil]
  go_wp2_with fail
  generalize hW : w7.alloc (Obj.cells #[Value.int IntKind.i64 0, Value.int IntKind.i64 0, Value.slice oc7 0 cc7] 36) = W8 at *
  have X8 := lays_kept hk67 (unhide X6)
  have Z8 := lays_kept hk67 (unhide Z6)
  have H8 : Hid (Kept w W8) := H6.out.trans hk67
  have Y8 := hide ((unhide Y6).kept hk67)
  have x2 := cell_lays X8 2
  have y0 := cell_lays Z8 0
  have y1 := cell_lays Z8 1
  have y2 := cell_lays Z8 2
  simp only [List.getElem?_toArray, List.getElem?_cons_zero, List.getElem?_cons_succ] at x2 y0 y1 y2
  clear hk7 hk67 H6 X6 Y6 Z6 C6 hW X8 Z8
  have HY : Hid (∀ u, Kept W8 u → u.cell? ⟨w2.heap.size, 2, none⟩ = some (.slice oc2 10 cc2) ∧ u.cell? ⟨w5.heap.size, 0, none⟩ = some (.int .i64 0) ∧ u.cell? ⟨w5.heap.size, 1, none⟩ = some (.int .i64 0) ∧ u.cell? ⟨w5.heap.size, 2, none⟩ = some (.slice oc5 3 cc5)) :=
    hide (fun u hu => ⟨hu.cell x2, hu.cell y0, hu.cell y1, hu.cell y2⟩)
  go_cut [0] (fun s0 wx => s0 = .bool true ∧ Hid (Kept W8 wx))
  case first =>
    go_region_held3 (fun u => u.cell? ⟨w2.heap.size, 2, none⟩ = some (.slice oc2 10 cc2) ∧ u.cell? ⟨w5.heap.size, 0, none⟩ = some (.int .i64 0) ∧ u.cell? ⟨w5.heap.size, 1, none⟩ = some (.int .i64 0) ∧ u.cell? ⟨w5.heap.size, 2, none⟩ = some (.slice oc5 3 cc5))
      (first | exact (unhide HY) _ (Kept.trans (by repeat (first | exact Kept.refl _ | refine Kept.drew ?_ | refine Kept.alloc ?_ _)) hkk) | exact (unhide HY) _ (by repeat (first | exact Kept.refl _ | refine Kept.drew ?_ | refine Kept.alloc ?_ _)))
      (first | (go_at_call 33; refine (o_any _ _ _).mono ?_; rintro e w' ⟨rfl, rfl⟩) | (go_at_call 20; refine (sameFuncs_same 0 0 [(9, 1), (0, 1), (12, 0)] _ _ _ ?_ ?_).mono ?_; (exact (unhide Y8).kept (by repeat (first | exact Kept.refl _ | refine Kept.drew ?_ | refine Kept.alloc ?_ _))); (exact codeAt_block (by repeat (first | exact lays_new (by simp) | refine lays_alloc ?_ _ | refine lays_drew ?_)) [(9, 1), (0, 1), (12, 0)] rfl (by decide) 3 3 rfl); rintro e w' ⟨rfl, hkk⟩))
    all_goals go_wp2_with fail
    all_goals go_meet
    all_goals exact ⟨rfl, hide (Kept.trans (by repeat (first | exact Kept.refl _ | refine Kept.drew ?_ | refine Kept.alloc ?_ _)) hkk)⟩
  case rest =>
    obtain ⟨rfl, HKx⟩ := hcut
    go_wp2
    go_ret
    exact ⟨rfl, H8.out.trans (unhide HKx)⟩
end Go.Proofs.YtkepbeeioalmbabDoor
