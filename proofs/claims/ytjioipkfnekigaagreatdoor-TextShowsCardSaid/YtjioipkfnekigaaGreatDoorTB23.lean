/- ProgD0, TextShowsW, TextEnvS -/
import Derived.Test.YtjioipkfnekigaaGreatDoorTB16
import Derived.Test.YtjioipkfnekigaaGreatDoorTB21
import Derived.Test.YtjioipkfnekigaaGreatDoorTB22
import Derived.Test.YtjioipkfnekigaaGreatDoorTB18
import Derived.Test.YtjioipkfnekigaaGreatDoorTB19
import Derived.Test.YtjioipkfnekigaaGreatDoorRows
import Derived.Test.YtjioipkfnekigaaGreatDoorTB01
import Derived.MakeChecks
import Derived.Lib.LaidU8
import Derived.Lib.LaidTab
import Derived.LaidSub
set_option maxRecDepth 100000
set_option maxHeartbeats 8000000
namespace Go.Proofs.YtjioipkfnekigaaGreatDoor
open Go.RowKit
theorem refHeights_at (p : List Fn) (v : Value) (k : Nat) (w : World) (hp : ProgAt w v p) (hz : chkS p k = 0) :
    Calls Tryz.prog 23 #[v, .int .i64 k] w fun e w' => RefPost p (codeOf p k) w e w' := by
  obtain ⟨i, hi0, hi, hm, hr, hops⟩ := chkS_zero hz
  obtain rfl : k = i := by omega
  obtain ⟨oa, cap, rfl, hl, hcell⟩ := id hp
  obtain ⟨b, o, cv, rfl, c0, c1, c2, hc⟩ := hcell k _ (getD_of_lt p k Fn.zero hi)
  obtain ⟨oc, cc, rfl, _, _⟩ := id hc
  exact refHeights_any p (p.getD k Fn.zero) k b o cap oc _ cc w hp hi c2 hc rfl hm (fun x hx => opsS_all hops x hx)
theorem hgtE_some {p : List Fn} {k : Nat} : hgtE p k = if (heightsS p (codeOf p k)).isSome = true then 0 else 1 := by
  unfold hgtE
  cases heightsS p (codeOf p k) <;> rfl
theorem progError_many (oa : Option Addr) (n cap : Nat) (w : World) (h : 5 < (n : Int)) :
    Calls Tryz.prog 6 #[.slice oa n cap] w fun e w' => e = .returned (.int .i64 2) ∧ Kept w w' := by
  go_enter Tryz.func6, Tryz.ntmps6
  go_wp2
  go_ret
  exact ⟨rfl, Kept.refl _⟩
theorem progError_none (oa : Option Addr) (cap : Nat) (w : World) :
    Calls Tryz.prog 6 #[.slice oa 0 cap] w fun e w' => e = .returned (.int .i64 5) ∧ Kept w w' := by
  go_enter Tryz.func6, Tryz.ntmps6
  go_wp2
  go_ret
  exact ⟨rfl, Kept.refl _⟩
theorem progError_args (b o n cap : Nat) (ar : Int) (w : World) (h : ¬ 5 < (n : Int)) (h0 : ((n : Int) == 0) = false) (hn : 0 < n) (c0 : w.cell? ⟨b, o, none⟩ = some (.int .i64 ar)) (ha : (ar != 0) = true) :
    Calls Tryz.prog 6 #[.slice (some ⟨b, o, none⟩) n cap] w fun e w' => e = .returned (.int .i64 1) ∧ Kept w w' := by
  go_enter Tryz.func6, Tryz.ntmps6
  go_wp2
  go_ret
  exact ⟨rfl, Kept.refl _⟩
theorem progError_go (p : List Fn) (b o n cap : Nat) (w : World) (hp : ProgAt w (.slice (some ⟨b, o, none⟩) n cap) p) (hl : n = p.length) (h : ¬ 5 < (n : Int)) (h0 : ((n : Int) == 0) = false) (hn : 0 < n) (c0 : w.cell? ⟨b, o, none⟩ = some (.int .i64 0)) (rr : Int) (hrr : (if firstS (fun k => chkS p k) 0 p.length = 0 then firstS (hgtE p) 0 p.length else firstS (fun k => chkS p k) 0 p.length) = rr) :
    Calls Tryz.prog 6 #[.slice (some ⟨b, o, none⟩) n cap] w fun e w' => e = .returned (.int .i64 rr) ∧ Kept w w' := by
  have HRR := hide hrr
  clear hrr
  have HP := hide hp
  have HL := hide hl
  clear hp hl
  go_enter Tryz.func6, Tryz.ntmps6
  go_wp2
  go_loopw [3] (fun s wr => ∃ k : Nat, k ≤ n ∧ s = .int .i64 k ∧ Hid (firstS (fun k => chkS p k) k (n - k) = firstS (fun k => chkS p k) 0 p.length) ∧ Hid (Kept w wr)) (fun s _ => n - (intOf s).toNat)
  case atStart => exact ⟨0, Nat.zero_le _, rfl, by have := unhide HL; subst this; rfl, Kept.refl _⟩
  case round =>
    obtain ⟨k, hkm, rfl, HO, HKr⟩ := hrel
    by_cases hlt : k < n
    · have hst := firstS_step (e := fun k => chkS p k) hlt
      have HST := hide hst
      have hck := funcError_any p (.slice (some ⟨b, o, none⟩) n cap) k wr ((unhide HP).kept (unhide HKr))
      have HCK := hide hck
      clear hst hck
      go_wp2_with fail
      refine (unhide HCK).mono ?_
      clear HCK
      rintro e w2 ⟨rfl, hk2⟩
      have HK2 := hide ((unhide HKr).trans hk2)
      clear hk2
      by_cases hz : chkS p k = 0
      · have hst := unhide HST
        simp only [hz, if_true] at hst
        have HS2 := hide (hst.symm.trans (unhide HO))
        rw [hz]
        clear hst hz HST HO
        go_wp2
        go_roundw
        case rel => exact ⟨k + 1, by omega, by go_num, HS2, HK2⟩
        case measure => simp [intOf]; omega
      · have hst := unhide HST
        simp only [hz, if_false] at hst
        have hs2 := hst.symm.trans (unhide HO)
        have hz' : (chkS p k != 0) = true := by rw [bne_iff_ne]; exact hz
        generalize chkS p k = r at *
        have HS2 := hide hs2
        have HZ := hide hz
        clear hst hz HST HO hs2
        go_wp2
        go_ret
        have hrr := unhide HRR
        rw [← unhide HS2, if_neg (unhide HZ)] at hrr
        exact ⟨by rw [← hrr]; rfl, unhide HK2⟩
    · have hf0 : firstS (fun k => chkS p k) 0 p.length = 0 := by
        rw [← unhide HO, show n - k = 0 by omega]
        rfl
      have HF := hide hf0
      clear hf0 HO
      go_wp2
      go_loopw [5] (fun s wq => ∃ k : Nat, k ≤ n ∧ s = .int .i64 k ∧ Hid (firstS (hgtE p) k (n - k) = firstS (hgtE p) 0 p.length) ∧ Hid (Kept w wq)) (fun s _ => n - (intOf s).toNat)
      case atStart => exact ⟨0, Nat.zero_le _, rfl, by have := unhide HL; subst this; rfl, HKr⟩
      case round =>
        obtain ⟨k, hkm, rfl, HO, HKq⟩ := hrel
        by_cases hlt : k < n
        · have hst := firstS_step (e := hgtE p) hlt
          have hz0 : chkS p k = 0 := firstS_zero (unhide HF) k (by omega) (by have := unhide HL; omega)
          have hck := refHeights_at p (.slice (some ⟨b, o, none⟩) n cap) k _ ((unhide HP).kept (unhide HKq)) hz0
          rw [hgtE_some] at hst
          have HST := hide hst
          have HCK := hide hck
          clear hst hck hz0
          go_wp2_with fail
          refine (unhide HCK).mono ?_
          clear HCK
          rintro e w2 ⟨v2, rfl, _, hk2⟩
          have HK2 := hide ((unhide HKq).trans hk2)
          clear hk2
          cases hz : (heightsS p (codeOf p k)).isSome with
          | true =>
            have hst := unhide HST
            rw [hz] at hst
            simp only [if_true] at hst
            have HS2 := hide (hst.symm.trans (unhide HO))
            clear hst hz HST HO
            go_wp2
            go_roundw
            case rel => exact ⟨k + 1, by omega, by go_num, HS2, HK2⟩
            case measure => simp [intOf]; omega
          | false =>
            have hst := unhide HST
            rw [hz] at hst
            simp at hst
            have HS2 := hide (hst.symm.trans (unhide HO))
            clear hst hz HST HO
            go_wp2
            go_ret
            have hrr := unhide HRR
            rw [if_pos (unhide HF), ← unhide HS2] at hrr
            exact ⟨by rw [← hrr]; rfl, unhide HK2⟩
        · have hf1 : firstS (hgtE p) 0 p.length = 0 := by
            rw [← unhide HO, show n - k = 0 by omega]
            rfl
          have HF1 := hide hf1
          clear hf1 HO
          go_wp2
          go_ret
          have hrr := unhide HRR
          rw [if_pos (unhide HF), unhide HF1] at hrr
          exact ⟨by rw [← hrr]; rfl, unhide HKq⟩
theorem progError_any (p : List Fn) (v : Value) (w : World) (hp : ProgAt w v p) :
    Calls Tryz.prog 6 #[v] w fun e w' => e = .returned (.int .i64 (progS p)) ∧ Kept w w' := by
  obtain ⟨oa, cap, rfl, hl, hi⟩ := id hp
  unfold progS
  by_cases h5 : 5 < p.length
  · rw [if_pos h5]
    exact progError_many oa p.length cap w (by omega)
  · rw [if_neg h5]
    by_cases h0 : p.length = 0
    · rw [if_pos h0, h0]
      exact progError_none oa cap w
    · rw [if_neg h0]
      have h0' : ((p.length : Int) == 0) = false := by rw [beq_eq_false_iff_ne]; omega
      obtain ⟨b, o, cv, rfl, c0, c1, c2, hc⟩ := hi 0 _ (getD_of_lt p 0 Fn.zero (by omega))
      simp only [Nat.zero_mul, Nat.add_zero] at c0
      by_cases ha : (p.getD 0 Fn.zero).args = 0
      · rw [if_neg (not_not_intro ha)]
        rw [ha] at c0
        exact progError_go p b o p.length cap w hp rfl (by omega) h0' (by omega) c0 _ rfl
      · rw [if_pos ha]
        exact progError_args b o p.length cap _ w (by omega) h0' (by omega) c0 (by rw [bne_iff_ne]; exact ha)
open Go.RowKit Go.Maps
def GivesPr (f : FuncId) (args : Array Value) (u : World) (p : List Fn) (er : Int) : Prop := Calls Tryz.prog f args u fun e w' => ∃ oa n cap, e = .returned (.tuple #[.slice oa n cap, .int .i64 er]) ∧ ProgAt w' (.slice oa n cap) p ∧ Kept u w'
theorem textShows_far (w : World) (oa : Option Addr) (n cap : Nat) (er : Int) (T S : ByteArray) (hbig : (8192 : Int) < (S.size : Int))
    (HSH : Hid (∀ u, Kept w u → Calls Tryz.prog 5 #[.slice oa n cap] u fun e w' => e = .returned (.tuple #[.string T, .int .i64 er]) ∧ Kept u w'))
    (HPE : Hid (∀ u, Kept w u → Calls Tryz.prog 6 #[.slice oa n cap] u fun e w' => e = .returned (.int .i64 er) ∧ Kept u w'))
    (HPT : Hid (er = 0 → ∀ u, Kept w u → Calls Tryz.prog 7 #[.slice oa n cap] u fun e w' => e = .returned (.string T) ∧ Kept u w'))
    (HT0 : er ≠ 0 → T = ⟨#[]⟩)
    (HRS : Hid (∀ u, Kept w u → GivesPr 8 #[.string S] u [] 2))
    (HTB : Hid (∀ u, Kept w u → Calls Tryz.prog 9 #[] u fun e w' => e = .returned (.bool true) ∧ Kept u w')) :
    Calls Tryz.prog 3 #[.slice oa n cap, .string S] w fun e w' => e = .returned (.bool true) ∧ Kept w w' := by
  unfold GivesPr at HRS
  by_cases he : er = 0
  · subst he
    replace HPT := hide ((unhide HPT) rfl)
    clear HT0
    go_enter Tryz.func3, Tryz.ntmps3
    go_wp2_with fail
    refine ((unhide HSH) w (Kept.refl w)).mono ?_
    rintro _ w1 ⟨rfl, k1⟩
    have HK := hide k1
    clear k1 HSH
    go_wp2_with fail
    refine ((unhide HPE) _ (unhide HK)).mono ?_
    rintro _ w2 ⟨rfl, k2⟩
    replace HK := hide ((unhide HK).trans k2)
    clear k2 HPE
    go_wp2_with fail
    refine ((unhide HPT) _ (unhide HK)).mono ?_
    rintro _ w3 ⟨rfl, k3⟩
    replace HK := hide ((unhide HK).trans k3)
    clear k3 HPT
    go_wp2_with fail
    refine ((unhide HRS) _ (unhide HK)).mono ?_
    rintro _ w4 ⟨o4, n4, c4, rfl, p4, k4⟩
    replace HK := hide ((unhide HK).trans k4)
    obtain rfl : n4 = 0 := by
      obtain ⟨_, _, e, _⟩ := p4
      cases e
      rfl
    clear k4 p4 HRS
    go_wp2_with fail
    refine ((unhide HTB) _ (unhide HK)).mono ?_
    rintro _ w6 ⟨rfl, k6⟩
    replace HK := hide ((unhide HK).trans k6)
    clear k6 HTB
    go_wp2_with fail
    go_ret
    exact ⟨rfl, unhide HK⟩
  · obtain rfl := HT0 he
    have he2 : (er == 0) = false := by simpa using he
    clear HPT HT0 he
    go_enter Tryz.func3, Tryz.ntmps3
    go_wp2_with fail
    refine ((unhide HSH) w (Kept.refl w)).mono ?_
    rintro _ w1 ⟨rfl, k1⟩
    have HK := hide k1
    clear k1 HSH
    go_wp2_with fail
    refine ((unhide HPE) _ (unhide HK)).mono ?_
    rintro _ w2 ⟨rfl, k2⟩
    replace HK := hide ((unhide HK).trans k2)
    clear k2 HPE
    go_wp2_with fail
    refine ((unhide HRS) _ (unhide HK)).mono ?_
    rintro _ w4 ⟨o4, n4, c4, rfl, p4, k4⟩
    replace HK := hide ((unhide HK).trans k4)
    obtain rfl : n4 = 0 := by
      obtain ⟨_, _, e, _⟩ := p4
      cases e
      rfl
    clear k4 p4 HRS
    go_wp2_with fail
    refine ((unhide HTB) _ (unhide HK)).mono ?_
    rintro _ w6 ⟨rfl, k6⟩
    replace HK := hide ((unhide HK).trans k6)
    clear k6 HTB
    go_wp2_with fail
    go_ret
    exact ⟨rfl, unhide HK⟩
theorem textShows_true (w : World) (oa : Option Addr) (n cap : Nat) (y : List Fn) (er : Int) (T S : ByteArray) (hbig : ¬ (8192 : Int) < (S.size : Int))
    (HSH : Hid (∀ u, Kept w u → Calls Tryz.prog 5 #[.slice oa n cap] u fun e w' => e = .returned (.tuple #[.string T, .int .i64 er]) ∧ Kept u w'))
    (HPE : Hid (∀ u, Kept w u → Calls Tryz.prog 6 #[.slice oa n cap] u fun e w' => e = .returned (.int .i64 er) ∧ Kept u w'))
    (HPT : Hid (er = 0 → ∀ u, Kept w u → Calls Tryz.prog 7 #[.slice oa n cap] u fun e w' => e = .returned (.string T) ∧ Kept u w'))
    (HT0 : er ≠ 0 → T = ⟨#[]⟩)
    (HRS : Hid (∀ u, Kept w u → GivesPr 8 #[.string S] u y 0))
    (HPF : Hid (∀ u, Kept w u → Calls Tryz.prog 10 #[.string S] u fun e w' => ∃ oa n cap, e = .returned (.tuple #[.slice oa n cap, .bool true]) ∧ ProgAt w' (.slice oa n cap) y ∧ Kept u w'))
    (HSP : Hid (∀ u v1 v2, ProgAt u v1 y → ProgAt u v2 y → Calls Tryz.prog 11 #[v1, v2] u fun e w' => e = .returned (.bool true) ∧ Kept u w'))
    (HTB : Hid (∀ u, Kept w u → Calls Tryz.prog 9 #[] u fun e w' => e = .returned (.bool true) ∧ Kept u w')) :
    Calls Tryz.prog 3 #[.slice oa n cap, .string S] w fun e w' => e = .returned (.bool true) ∧ Kept w w' := by
  unfold GivesPr at HRS
  by_cases he : er = 0
  · subst he
    replace HPT := hide ((unhide HPT) rfl)
    clear HT0
    go_enter Tryz.func3, Tryz.ntmps3
    go_wp2_with fail
    refine ((unhide HSH) w (Kept.refl w)).mono ?_
    rintro _ w1 ⟨rfl, k1⟩
    have HK := hide k1
    clear k1 HSH
    go_wp2_with fail
    refine ((unhide HPE) _ (unhide HK)).mono ?_
    rintro _ w2 ⟨rfl, k2⟩
    replace HK := hide ((unhide HK).trans k2)
    clear k2 HPE
    go_wp2_with fail
    refine ((unhide HPT) _ (unhide HK)).mono ?_
    rintro _ w3 ⟨rfl, k3⟩
    replace HK := hide ((unhide HK).trans k3)
    clear k3 HPT
    go_wp2_with fail
    refine ((unhide HRS) _ (unhide HK)).mono ?_
    rintro _ w4 ⟨o4, n4, c4, rfl, p4, k4⟩
    replace HK := hide ((unhide HK).trans k4)
    have HP4 := hide p4
    clear k4 p4 HRS
    go_wp2_with fail
    refine ((unhide HPF) _ (unhide HK)).mono ?_
    rintro _ w5 ⟨o5, n5, c5, rfl, p5, k5⟩
    replace HK := hide ((unhide HK).trans k5)
    replace HP4 := hide ((unhide HP4).kept k5)
    have HP5 := hide p5
    clear k5 p5 HPF
    go_wp2_with fail
    refine ((unhide HTB) _ (unhide HK)).mono ?_
    rintro _ w6 ⟨rfl, k6⟩
    replace HK := hide ((unhide HK).trans k6)
    have HC := hide ((unhide HSP) w6 _ _ ((unhide HP4).kept k6) ((unhide HP5).kept k6))
    clear k6 HTB
    go_wp2_with fail
    refine (unhide HC).mono ?_
    rintro _ w7 ⟨rfl, k7⟩
    replace HK := hide ((unhide HK).trans k7)
    clear k7 HC
    go_wp2_with fail
    go_ret
    exact ⟨rfl, unhide HK⟩
  · obtain rfl := HT0 he
    have he2 : (er == 0) = false := by simpa using he
    clear HPT HT0 he
    go_enter Tryz.func3, Tryz.ntmps3
    go_wp2_with fail
    refine ((unhide HSH) w (Kept.refl w)).mono ?_
    rintro _ w1 ⟨rfl, k1⟩
    have HK := hide k1
    clear k1 HSH
    go_wp2_with fail
    refine ((unhide HPE) _ (unhide HK)).mono ?_
    rintro _ w2 ⟨rfl, k2⟩
    replace HK := hide ((unhide HK).trans k2)
    clear k2 HPE
    go_wp2_with fail
    refine ((unhide HRS) _ (unhide HK)).mono ?_
    rintro _ w4 ⟨o4, n4, c4, rfl, p4, k4⟩
    replace HK := hide ((unhide HK).trans k4)
    have HP4 := hide p4
    clear k4 p4 HRS
    go_wp2_with fail
    refine ((unhide HPF) _ (unhide HK)).mono ?_
    rintro _ w5 ⟨o5, n5, c5, rfl, p5, k5⟩
    replace HK := hide ((unhide HK).trans k5)
    replace HP4 := hide ((unhide HP4).kept k5)
    have HP5 := hide p5
    clear k5 p5 HPF
    go_wp2_with fail
    refine ((unhide HTB) _ (unhide HK)).mono ?_
    rintro _ w6 ⟨rfl, k6⟩
    replace HK := hide ((unhide HK).trans k6)
    have HC := hide ((unhide HSP) w6 _ _ ((unhide HP4).kept k6) ((unhide HP5).kept k6))
    clear k6 HTB
    go_wp2_with fail
    refine (unhide HC).mono ?_
    rintro _ w7 ⟨rfl, k7⟩
    replace HK := hide ((unhide HK).trans k7)
    clear k7 HC
    go_wp2_with fail
    go_ret
    exact ⟨rfl, unhide HK⟩
theorem textShows_false (w : World) (oa : Option Addr) (n cap : Nat) (y : List Fn) (er : Int) (T S : ByteArray) (hbig : ¬ (8192 : Int) < (S.size : Int))
    (HSH : Hid (∀ u, Kept w u → Calls Tryz.prog 5 #[.slice oa n cap] u fun e w' => e = .returned (.tuple #[.string T, .int .i64 er]) ∧ Kept u w'))
    (HPE : Hid (∀ u, Kept w u → Calls Tryz.prog 6 #[.slice oa n cap] u fun e w' => e = .returned (.int .i64 er) ∧ Kept u w'))
    (HPT : Hid (er = 0 → ∀ u, Kept w u → Calls Tryz.prog 7 #[.slice oa n cap] u fun e w' => e = .returned (.string T) ∧ Kept u w'))
    (HT0 : er ≠ 0 → T = ⟨#[]⟩)
    (HRS : Hid (∀ u, Kept w u → GivesPr 8 #[.string S] u y 1))
    (HPF : Hid (∀ u, Kept w u → Calls Tryz.prog 10 #[.string S] u fun e w' => ∃ oa n cap, e = .returned (.tuple #[.slice oa n cap, .bool false]) ∧ ProgAt w' (.slice oa n cap) y ∧ Kept u w'))
    (HSP : Hid (∀ u v1 v2, ProgAt u v1 y → ProgAt u v2 y → Calls Tryz.prog 11 #[v1, v2] u fun e w' => e = .returned (.bool true) ∧ Kept u w'))
    (HTB : Hid (∀ u, Kept w u → Calls Tryz.prog 9 #[] u fun e w' => e = .returned (.bool true) ∧ Kept u w')) :
    Calls Tryz.prog 3 #[.slice oa n cap, .string S] w fun e w' => e = .returned (.bool true) ∧ Kept w w' := by
  unfold GivesPr at HRS
  by_cases he : er = 0
  · subst he
    replace HPT := hide ((unhide HPT) rfl)
    clear HT0
    go_enter Tryz.func3, Tryz.ntmps3
    go_wp2_with fail
    refine ((unhide HSH) w (Kept.refl w)).mono ?_
    rintro _ w1 ⟨rfl, k1⟩
    have HK := hide k1
    clear k1 HSH
    go_wp2_with fail
    refine ((unhide HPE) _ (unhide HK)).mono ?_
    rintro _ w2 ⟨rfl, k2⟩
    replace HK := hide ((unhide HK).trans k2)
    clear k2 HPE
    go_wp2_with fail
    refine ((unhide HPT) _ (unhide HK)).mono ?_
    rintro _ w3 ⟨rfl, k3⟩
    replace HK := hide ((unhide HK).trans k3)
    clear k3 HPT
    go_wp2_with fail
    refine ((unhide HRS) _ (unhide HK)).mono ?_
    rintro _ w4 ⟨o4, n4, c4, rfl, p4, k4⟩
    replace HK := hide ((unhide HK).trans k4)
    have HP4 := hide p4
    clear k4 p4 HRS
    go_wp2_with fail
    refine ((unhide HPF) _ (unhide HK)).mono ?_
    rintro _ w5 ⟨o5, n5, c5, rfl, p5, k5⟩
    replace HK := hide ((unhide HK).trans k5)
    replace HP4 := hide ((unhide HP4).kept k5)
    have HP5 := hide p5
    clear k5 p5 HPF
    go_wp2_with fail
    refine ((unhide HTB) _ (unhide HK)).mono ?_
    rintro _ w6 ⟨rfl, k6⟩
    replace HK := hide ((unhide HK).trans k6)
    have HC := hide ((unhide HSP) w6 _ _ ((unhide HP4).kept k6) ((unhide HP5).kept k6))
    clear k6 HTB
    go_wp2_with fail
    refine (unhide HC).mono ?_
    rintro _ w7 ⟨rfl, k7⟩
    replace HK := hide ((unhide HK).trans k7)
    clear k7 HC
    go_wp2_with fail
    go_ret
    exact ⟨rfl, unhide HK⟩
  · obtain rfl := HT0 he
    have he2 : (er == 0) = false := by simpa using he
    clear HPT HT0 he
    go_enter Tryz.func3, Tryz.ntmps3
    go_wp2_with fail
    refine ((unhide HSH) w (Kept.refl w)).mono ?_
    rintro _ w1 ⟨rfl, k1⟩
    have HK := hide k1
    clear k1 HSH
    go_wp2_with fail
    refine ((unhide HPE) _ (unhide HK)).mono ?_
    rintro _ w2 ⟨rfl, k2⟩
    replace HK := hide ((unhide HK).trans k2)
    clear k2 HPE
    go_wp2_with fail
    refine ((unhide HRS) _ (unhide HK)).mono ?_
    rintro _ w4 ⟨o4, n4, c4, rfl, p4, k4⟩
    replace HK := hide ((unhide HK).trans k4)
    have HP4 := hide p4
    clear k4 p4 HRS
    go_wp2_with fail
    refine ((unhide HPF) _ (unhide HK)).mono ?_
    rintro _ w5 ⟨o5, n5, c5, rfl, p5, k5⟩
    replace HK := hide ((unhide HK).trans k5)
    replace HP4 := hide ((unhide HP4).kept k5)
    have HP5 := hide p5
    clear k5 p5 HPF
    go_wp2_with fail
    refine ((unhide HTB) _ (unhide HK)).mono ?_
    rintro _ w6 ⟨rfl, k6⟩
    replace HK := hide ((unhide HK).trans k6)
    have HC := hide ((unhide HSP) w6 _ _ ((unhide HP4).kept k6) ((unhide HP5).kept k6))
    clear k6 HTB
    go_wp2_with fail
    refine (unhide HC).mono ?_
    rintro _ w7 ⟨rfl, k7⟩
    replace HK := hide ((unhide HK).trans k7)
    clear k7 HC
    go_wp2_with fail
    go_ret
    exact ⟨rfl, unhide HK⟩
theorem textShows_walk (p : List Fn) (vp : Value) (sb : ByteArray) (w : World) (hp : ProgAt w vp p) (hk : KindsAt w) (he : EnvT w) :
    Calls Tryz.prog 3 #[vp, .string sb] w fun e w' => e = .returned (.bool true) ∧ Kept w w' := by
  obtain ⟨l, rfl⟩ : ∃ l : List UInt8, sb = ⟨l.toArray⟩ := ⟨sb.data.toList, by cases sb; simp⟩
  obtain ⟨oa, cap, rfl, _⟩ := id hp
  have hsz : (ByteArray.mk l.toArray).size = l.length := by simp [ByteArray.size]
  have he2 : (showR p).2 = progS p := by
    unfold showR
    split
    · rename_i h; exact h.symm
    · rfl
  have HSH : Hid (∀ u, Kept w u → Calls Tryz.prog 5 #[.slice oa p.length cap] u fun e w' => e = .returned (.tuple #[.string ⟨(showR p).1.toArray⟩, .int .i64 (progS p)]) ∧ Kept u w') := hide fun u hu => by
    have := show_any u p _ (hp.kept hu) (he.kept hu) (hk.kept hu)
    rwa [he2] at this
  have HPE : Hid (∀ u, Kept w u → Calls Tryz.prog 6 #[.slice oa p.length cap] u fun e w' => e = .returned (.int .i64 (progS p)) ∧ Kept u w') := hide fun u hu => progError_any p _ u (hp.kept hu)
  have HPT : Hid (progS p = 0 → ∀ u, Kept w u → Calls Tryz.prog 7 #[.slice oa p.length cap] u fun e w' => e = .returned (.string ⟨(showR p).1.toArray⟩) ∧ Kept u w') := hide fun hz u hu => by
    have := progText_ok u p _ (hp.kept hu) (right_okT hz)
    rwa [show showT p = (showR p).1 by unfold showR; rw [if_pos hz]] at this
  have HT0 : progS p ≠ 0 → (⟨(showR p).1.toArray⟩ : ByteArray) = ⟨#[]⟩ := fun h => by
    unfold showR
    rw [if_neg h]
  have HTB := hide fun u hu => textBegun_any u (he.kept (w := w) hu) (hk.kept hu)
  have HRD : ∀ u, Kept w u → GivesPr 8 #[.string ⟨l.toArray⟩] u (readR l).1 (readR l).2 := fun u hu => (read_any u l (he.kept hu) (hk.kept hu)).mono fun _ _ ⟨oa, n, cap, h1, _, h3, h4, _⟩ => ⟨oa, n, cap, h1, h3, h4⟩
  by_cases hl : l.length ≤ 8192
  · have hPF : ∀ u, Kept w u → _ := fun u _ => progFrom_w u l hl (hide fun u v p hp => progError_any p v u hp)
    have hfr := from_read hl
    rw [hfr] at HRD
    generalize hY : (fromR l).1 = Y at *
    cases hb : (fromR l).2 with
    | true =>
      rw [hb] at HRD hPF
      exact textShows_true w oa _ cap Y _ _ _ (by rw [hsz]; omega) HSH HPE HPT HT0 (hide HRD) (hide hPF) (hide fun u v1 v2 h1 h2 => sameProgsF Y v1 v2 u h1 h2) HTB
    | false =>
      rw [hb] at HRD hPF
      exact textShows_false w oa _ cap Y _ _ _ (by rw [hsz]; omega) HSH HPE HPT HT0 (hide HRD) (hide hPF) (hide fun u v1 v2 h1 h2 => sameProgsF Y v1 v2 u h1 h2) HTB
  · have hrd : readR l = ([], 2) := by unfold readR; rw [if_neg hl]
    rw [hrd] at HRD
    exact textShows_far w oa _ cap _ _ _ (by rw [hsz]; omega) HSH HPE HPT HT0 (hide HRD) HTB
open Go.RowKit Go.ChangeShapes Go.WideShapes Go.ChangeAt
theorem laidT_at {H : Type} (i : Nat) (h : i < 17) : ([.agg [.lit (.string [112, 117, 115, 104]), .lit (.int .i64 1)], .agg [.lit (.string [112, 111, 112]), .lit (.int .i64 0)], .agg [.lit (.string [108, 111, 97, 100]), .lit (.int .i64 1)], .agg [.lit (.string [115, 116, 111, 114, 101]), .lit (.int .i64 1)], .agg [.lit (.string [97, 100, 100]), .lit (.int .i64 0)], .agg [.lit (.string [115, 117, 98]), .lit (.int .i64 0)], .agg [.lit (.string [109, 117, 108]), .lit (.int .i64 0)], .agg [.lit (.string [108, 101, 115, 115]), .lit (.int .i64 0)], .agg [.lit (.string [115, 97, 109, 101]), .lit (.int .i64 0)], .agg [.lit (.string [106, 117, 109, 112]), .lit (.int .i64 1)], .agg [.lit (.string [122, 101, 114, 111]), .lit (.int .i64 1)], .agg [.lit (.string [99, 97, 108, 108]), .lit (.int .i64 1)], .agg [.lit (.string [114, 101, 116, 117, 114, 110]), .lit (.int .i64 0)], .agg [.lit (.string [109, 97, 107, 101]), .lit (.int .i64 1)], .agg [.lit (.string [114, 101, 115, 117, 109, 101]), .lit (.int .i64 0)], .agg [.lit (.string [121, 105, 101, 108, 100]), .lit (.int .i64 0)], .agg [.lit (.string [112, 117, 116]), .lit (.int .i64 0)]] : List (DataW H))[i]? = some (.agg [.lit (.string (tkS.getD i ([], 0)).1), .lit (.int .i64 ((tkS.getD i ([], 0)).2 : Nat))]) := by
  have : i = 0 ∨ i = 1 ∨ i = 2 ∨ i = 3 ∨ i = 4 ∨ i = 5 ∨ i = 6 ∨ i = 7 ∨ i = 8 ∨ i = 9 ∨ i = 10 ∨ i = 11 ∨ i = 12 ∨ i = 13 ∨ i = 14 ∨ i = 15 ∨ i = 16 := by omega
  rcases this with rfl | rfl | rfl | rfl | rfl | rfl | rfl | rfl | rfl | rfl | rfl | rfl | rfl | rfl | rfl | rfl | rfl <;> rfl
theorem gTK : Tryz.prog.globalNamed "glebe/text.kinds" = some 0 := by kernel_rfl
theorem gTKType : (Tryz.prog.globals[0]?).map (·.type) = some 86 := by kernel_rfl
theorem cellsTK : Tryz.prog.cellsOf 85 = 2 := by kernel_rfl
theorem cellsStr : Tryz.prog.cellsOf 9 = 1 := by kernel_rfl
theorem cellsIntT : Tryz.prog.cellsOf 3 = 1 := by kernel_rfl
theorem typeTK : ∃ f0 f1 : Field, Tryz.prog.underlying 85 = some (.struct #[f0, f1]) ∧ f0.type = 9 ∧ f0.offset = 0 ∧ f1.type = 3 ∧ f1.offset = 1 := ⟨_, _, Tryz.underlying85, rfl, rfl, rfl, rfl⟩
theorem tk_of_reads {W : World} (h : Lib.VarReads Tryz.prog W "glebe/text.kinds" Rows.laid_glebe_text_kinds) : TKAt W := by
  obtain ⟨g', t', cs, fuel, p, hg', ht', hvar, hd⟩ := h
  obtain rfl := Option.some.inj (gTK.symm.trans hg')
  obtain rfl := Option.some.inj (gTKType.symm.trans ht')
  obtain ⟨xs, m, _, hx, _, hxl, hi⟩ := DataW.trod_array Tryz.underlying86 hd
  have hagg : (Rows.laid_glebe_text_kinds : DataW Unit) = .agg (xs.map (·.1)) := congrArg Prod.fst hx
  have hl : ∀ i, i < 17 → (xs[i]?).map (·.1) = some (.agg [.lit (.string (tkS.getD i ([], 0)).1), .lit (.int .i64 ((tkS.getD i ([], 0)).2 : Nat))]) := by
    intro i hi17
    rw [← List.getElem?_map, ← laidT_at i hi17]
    unfold Rows.laid_glebe_text_kinds at hagg
    rw [← DataW.agg.inj hagg]
  intro i hi17
  have h1 := hi i hi17
  obtain ⟨x, hxi, hx1⟩ := Option.map_eq_some_iff.1 (hl i hi17)
  rw [hxi, cellsTK] at h1
  obtain ⟨f0, f1, hu, t0, o0, t1, o1⟩ := typeTK
  obtain ⟨y0, y1, n', hy, _, g0, g1⟩ := trod_struct2 hu h1
  rw [t0, o0, cellsStr] at g0
  rw [t1, o1, cellsIntT] at g1
  obtain ⟨s, e0, r0, _⟩ := DataW.trod_string Tryz.underlying9 g0
  obtain ⟨z1, e1, r1, _⟩ := DataW.trod_int Tryz.underlying3 g1
  rw [hy, r0, r1] at hx1
  simp only [DataW.agg.injEq, List.cons.injEq, DataW.lit.injEq, Lit.string.injEq, Lit.int.injEq, true_and, and_true] at hx1
  obtain ⟨q0, rfl⟩ := hx1
  have hs : Value.string s = strV (tkS.getD i ([], 0)).1 := by rw [← q0]; cases s; simp [strV]
  rw [World.var?_cell gTK hvar, World.var?_cell gTK hvar, ← hs]
  constructor
  · have := congrArg (·[0]?) e0
    simpa [List.getElem?_take, List.getElem?_drop] using this
  · have := congrArg (·[0]?) e1
    simpa [List.getElem?_take, List.getElem?_drop, Nat.add_comm, Nat.add_left_comm] using this
theorem err_of_reads {W : World} {n nm : String} {d : DataW Unit} {g : Nat} {ti : TypeId} {ms : Array (String × TypeId)} (hg : Tryz.prog.globalNamed n = some g) (ht : (Tryz.prog.globals[g]?).map (·.type) = some ti) (hi : Tryz.prog.underlying ti = some (.interface ms)) (h : Lib.VarReads Tryz.prog W n (.iface nm d)) : ∃ t p, W.var? Tryz.prog n = some #[.iface t p] := by
  obtain ⟨g', t', cs, fuel, p, hg', ht', hvar, hd⟩ := h
  obtain rfl := Option.some.inj (hg.symm.trans hg')
  obtain rfl := Option.some.inj (ht.symm.trans ht')
  obtain ⟨_, u, v, e, _⟩ := iface_of_trod hi hd
  refine ⟨u, v, hvar.trans (congrArg some ?_)⟩
  cases cs
  simpa using e
theorem env_of_laid {W : World} (h : laidMetH Tryz.prog Rows.textShowsRow.laid W) (hsh : W.ShapedOpen Tryz.prog) : EnvT W ∧ KindsAt W := by
  have hM : laidMet Tryz.prog Rows.textShowsRow.laid W := by rw [← MakeChecks.laidMetH_plain _ _ _ (by kernel_rfl)]; exact h
  refine ⟨⟨?_, ⟨?_, ?_⟩, ?_, Tryz.laysM146.s1_3 W hsh⟩, ?_⟩
  · exact Lib.tabIs_of_head (rest := []) (g := 4) (t := 156) (e := 146) (n := 20) (by kernel_rfl) (by kernel_rfl) (by kernel_rfl) (by kernel_rfl) (by kernel_rfl) (by kernel_rfl) (hM.filter (fun x => x.1 == "internal/strconv.uint64pow10"))
  · exact err_of_reads (g := 7) (ti := 52) (by kernel_rfl) (by kernel_rfl) Tryz.underlying52 (Lib.laidMet.reads hM (n := "strconv.ErrSyntax") (d := Rows.laid_strconv_ErrSyntax) (by simp [Rows.textShowsRow]))
  · exact err_of_reads (g := 8) (ti := 52) (by kernel_rfl) (by kernel_rfl) Tryz.underlying52 (Lib.laidMet.reads hM (n := "strconv.ErrRange") (d := Rows.laid_strconv_ErrRange) (by simp [Rows.textShowsRow]))
  · exact tk_of_reads (Lib.laidMet.reads hM (by simp [Rows.textShowsRow]))
  · exact kinds_of_laid (h.filter (fun x => x.1 == "glebe/op.kinds"))
end Go.Proofs.YtjioipkfnekigaaGreatDoor
