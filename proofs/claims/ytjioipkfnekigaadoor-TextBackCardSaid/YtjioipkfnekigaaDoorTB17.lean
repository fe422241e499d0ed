/- SamePr, TextR, TextBackW, TextEnv -/
import Derived.Test.YtjioipkfnekigaaDoorTB01
import Derived.Test.YtjioipkfnekigaaDoorChecked
import Derived.Deep.RegionWith
import Derived.Deep.DeepCutAuto
import Derived.Test.YtjioipkfnekigaaDoorTB16
import Derived.Test.YtjioipkfnekigaaDoorTB14
import Derived.Test.YtjioipkfnekigaaDoorRows
import Derived.MakeChecks
import Derived.Lib.LaidU8
import Derived.Lib.LaidTab
import Derived.LaidSub
set_option maxRecDepth 100000
set_option maxHeartbeats 8000000
namespace Go.Proofs.YtjioipkfnekigaaDoor
open Go.RowKit
theorem sameFuncsF (ar lo : Int) (c : List (Int × Int)) (cv1 cv2 : Value) (w : World) (h1 : CodeAt w cv1 c) (h2 : CodeAt w cv2 c) :
    Calls Tryd.prog 14 #[.agg #[.int .i64 ar, .int .i64 lo, cv1], .agg #[.int .i64 ar, .int .i64 lo, cv2]] w fun e w' => e = .returned (.bool true) ∧ Kept w w' := by
  obtain ⟨oa1, cap1, rfl, hl8, i1⟩ := h1
  obtain ⟨oa2, cap2, rfl, _, i2⟩ := h2
  have hn1 : (ar != ar) = false := by simp
  have hn2 : (lo != lo) = false := by simp
  have hn3 : ((c.length : Int) != (c.length : Int)) = false := by simp
  generalize hm : c.length = m at *
  have HI1 := hide i1
  have HI2 := hide i2
  have HM := hide hm
  clear i1 i2 hm
  go_enter Tryd.func14, Tryd.ntmps14
  go_wp2
  have L0 : Hid (((w.alloc (.cells #[.int .i64 ar, .int .i64 lo, .slice oa1 m cap1] 38)).alloc (.cells #[.int .i64 ar, .int .i64 lo, .slice oa2 m cap2] 38)).heap[w.heap.size]? = _) := hide (lays_alloc (lays_new rfl) _)
  have L1 : Hid (((w.alloc (.cells #[.int .i64 ar, .int .i64 lo, .slice oa1 m cap1] 38)).alloc (.cells #[.int .i64 ar, .int .i64 lo, .slice oa2 m cap2] 38)).heap[w.heap.size + 1]? = _) := hide (lays_new (by simp))
  generalize hW : (w.alloc (.cells #[.int .i64 ar, .int .i64 lo, .slice oa1 m cap1] 38)).alloc (.cells #[.int .i64 ar, .int .i64 lo, .slice oa2 m cap2] 38) = W at *
  have HKW : Hid (Kept w W) := by rw [← hW]; exact ((Kept.refl w).alloc _).alloc _
  clear hW
  go_loopw [5] (fun s wr => ∃ k : Nat, k ≤ m ∧ s = .int .i64 k ∧ Hid (Kept W wr)) (fun s _ => m - (intOf s).toNat)
  case atStart => exact ⟨0, Nat.zero_le _, rfl, Kept.refl _⟩
  case round =>
    obtain ⟨k, hkm, rfl, HKr⟩ := hrel
    have b0 := cell_lays (lays_kept (unhide HKr) (unhide L0)) 2
    have b1 := cell_lays (lays_kept (unhide HKr) (unhide L1)) 2
    simp only [List.getElem?_toArray, List.getElem?_cons_zero, List.getElem?_cons_succ] at b0 b1
    by_cases hlt : k < m
    · obtain ⟨⟨kd, a⟩, hx⟩ : ∃ x, c[k]? = some x := ⟨_, List.getElem?_eq_getElem (by rw [unhide HM]; exact hlt)⟩
      obtain ⟨p1, o1, rfl, x0, x1⟩ := (unhide HI1) k _ hx
      obtain ⟨p2, o2, rfl, y0, y1⟩ := (unhide HI2) k _ hx
      have hk := (unhide HKW).trans (unhide HKr)
      have x0' := hk.cell x0
      have x1' := hk.cell x1
      have y0' := hk.cell y0
      have y1' := hk.cell y1
      simp only at x0' x1' y0' y1'
      clear hk x0 x1 y0 y1 hx
      go_wp2
      go_quiet (fail)
      go_wp2
      go_roundw
      case rel => exact ⟨k + 1, by omega, by go_num, (unhide HKr).drewN _⟩
      case measure => simp [intOf]; omega
    · go_wp2
      go_ret
      exact ⟨rfl, (unhide HKW).trans (unhide HKr)⟩
theorem sameProgsF (p : List Fn) (v1 v2 : Value) (w : World) (h1 : ProgAt w v1 p) (h2 : ProgAt w v2 p) :
    Calls Tryd.prog 6 #[v1, v2] w fun e w' => e = .returned (.bool true) ∧ Kept w w' := by
  obtain ⟨oa1, cap1, rfl, hl8, i1⟩ := h1
  obtain ⟨oa2, cap2, rfl, _, i2⟩ := h2
  have hn3 : ((p.length : Int) != (p.length : Int)) = false := by simp
  generalize hm : p.length = m at *
  have HI1 := hide i1
  have HI2 := hide i2
  have HM := hide hm
  clear i1 i2 hm
  go_enter Tryd.func6, Tryd.ntmps6
  go_wp2
  go_loopw [5] (fun s wr => ∃ k : Nat, k ≤ m ∧ s = .int .i64 k ∧ Hid (Kept w wr)) (fun s _ => m - (intOf s).toNat)
  case atStart => exact ⟨0, Nat.zero_le _, rfl, Kept.refl _⟩
  case round =>
    obtain ⟨k, hkm, rfl, HKr⟩ := hrel
    by_cases hlt : k < m
    · obtain ⟨f, hx⟩ : ∃ f, p[k]? = some f := ⟨_, List.getElem?_eq_getElem (by rw [unhide HM]; exact hlt)⟩
      obtain ⟨p1, o1, cv1, rfl, x0, x1, x2, hc1⟩ := (unhide HI1) k _ hx
      obtain ⟨p2, o2, cv2, rfl, y0, y1, y2, hc2⟩ := (unhide HI2) k _ hx
      have hk := unhide HKr
      have x0' := hk.cell x0
      have x1' := hk.cell x1
      have x2' := hk.cell x2
      have y0' := hk.cell y0
      have y1' := hk.cell y1
      have y2' := hk.cell y2
      obtain ⟨oc1, cc1, rfl, _, _⟩ := id hc1
      obtain ⟨oc2, cc2, rfl, _, _⟩ := id hc2
      have HSF : Hid (∀ u, Kept wr u → Calls Tryd.prog 14 #[.agg #[.int .i64 f.args, .int .i64 f.locals, .slice oc1 f.code.length cc1], .agg #[.int .i64 f.args, .int .i64 f.locals, .slice oc2 f.code.length cc2]] u fun e w' => e = .returned (.bool true) ∧ Kept u w') :=
        hide (fun u hu => sameFuncsF f.args f.locals f.code _ _ u (hc1.kept (hk.trans hu)) (hc2.kept (hk.trans hu)))
      clear hk x0 x1 x2 y0 y1 y2 hx hc1 hc2
      go_wp2_with fail
      go_cut [26] from 11 to 26 (fun s26 wx => s26 = .bool false ∧ Hid (Kept wr wx))
      case first =>
        go_region_with (go_at_call 14; refine ((unhide HSF) _ ?_).mono ?_; (repeat (first | exact Kept.refl _ | refine Kept.drew ?_ | refine Kept.alloc ?_ _)); rintro e w' ⟨rfl, hkk⟩)
        all_goals go_wp2_with fail
        all_goals go_meet
        all_goals exact ⟨rfl, hide (by first | exact hkk | exact (Kept.refl wr).drew.trans hkk)⟩
      case rest =>
        obtain ⟨rfl, HKx⟩ := hcut
        go_wp2
        go_roundw
        case rel => exact ⟨k + 1, by omega, by go_num, (unhide HKr).trans (unhide HKx)⟩
        case measure => simp [intOf]; omega
    · go_wp2
      go_ret
      exact ⟨rfl, unhide HKr⟩
open Go.RowKit Go.Maps
def showR (p : List Fn) : List UInt8 × Int := if progS p = 0 then (showT p, 0) else ([], progS p)
theorem show_no (w : World) (p : List Fn) (vp : Value) (hp : ProgAt w vp p) (hk : KindsAt w) (hz : progS p ≠ 0) :
    Calls Tryd.prog 4 #[vp] w fun e w' => e = .returned (.tuple #[.string ⟨#[]⟩, .int .i64 (progS p)]) ∧ Kept w w' := by
  have HC := hide (progCheck_any p vp w hp hk)
  obtain ⟨oa, cap, rfl, _⟩ := hp
  generalize progS p = er at *
  generalize p.length = n at *
  have hz2 : (er == 0) = false := by simpa using hz
  clear hk
  go_enter Tryd.func4, Tryd.ntmps4
  go_wp2_with fail
  refine (unhide HC).mono ?_
  rintro _ w1 ⟨rfl, k1⟩
  have HK := hide k1
  clear k1 HC
  go_wp2_with fail
  go_ret2
  exact ⟨rfl, unhide HK⟩
theorem show_any (w : World) (p : List Fn) (vp : Value) (hp : ProgAt w vp p) (he : EnvT w) (hk : KindsAt w) :
    Calls Tryd.prog 4 #[vp] w fun e w' => e = .returned (.tuple #[.string ⟨(showR p).1.toArray⟩, .int .i64 (showR p).2]) ∧ Kept w w' := by
  unfold showR
  by_cases hz : progS p = 0
  · rw [if_pos hz]
    have HC := progCheck_any p vp w hp hk
    rw [hz] at HC
    exact show_ok w p vp hp (right_okT hz) he.tab he.kinds (hide HC)
  · rw [if_neg hz]
    exact show_no w p vp hp hk hz
theorem itoa_one (i : Nat) (h : i < 10) : Lib.itoa (i : Int) = [UInt8.ofNat (48 + i)] := by
  unfold Lib.itoa
  rw [if_neg (by omega), Int.toNat_natCast, Lib.decDigits_one h]
theorem cnt_okT : progS cntL = 0 := by decide +kernel
theorem cnt_head : ∃ rest, showT cntL = [102, 117, 110, 99, 32, 48, 32, 49, 10, 109, 97, 107, 101, 32, 49, 10, 115, 116, 111, 114, 101, 32, 48, 10, 108, 111, 97, 100, 32, 48, 10] ++ rest := by
  have i0 : Lib.itoa 0 = [48] := itoa_one 0 (by omega)
  have i1 : Lib.itoa 1 = [49] := itoa_one 1 (by omega)
  have h0 : showT cntL = lineT [102, 117, 110, 99] [0, 1] ++ opT (13, 1) ++ opT (3, 0) ++ opT (2, 0) ++ ((cnt0.drop 3).flatMap opT ++ showT cntL.tail) := by simp [showT, cntL, fnT, cnt0]
  have e1 : lineT [102, 117, 110, 99] [0, 1] = [102, 117, 110, 99, 32, 48, 32, 49, 10] := by
    unfold lineT
    rw [show ([0, 1] : List Int).map Lib.itoa = [[48], [49]] by simp [i0, i1]]
    rfl
  have e2 : opT (13, 1) = [109, 97, 107, 101, 32, 49, 10] := by
    show lineT [109, 97, 107, 101] [1] = _
    unfold lineT
    rw [show ([1] : List Int).map Lib.itoa = [[49]] by simp [i1]]
    rfl
  have e3 : opT (3, 0) = [115, 116, 111, 114, 101, 32, 48, 10] := by
    show lineT [115, 116, 111, 114, 101] [0] = _
    unfold lineT
    rw [show ([0] : List Int).map Lib.itoa = [[48]] by simp [i0]]
    rfl
  have e4 : opT (2, 0) = [108, 111, 97, 100, 32, 48, 10] := by
    show lineT [108, 111, 97, 100] [0] = _
    unfold lineT
    rw [show ([0] : List Int).map Lib.itoa = [[48]] by simp [i0]]
    rfl
  exact ⟨_, by rw [h0, e1, e2, e3, e4]; rfl⟩
theorem bad_read : readR [102, 117, 110, 99, 32, 48, 32, 48, 10, 112, 117, 115, 104, 32, 49, 10, 114, 101, 116, 117, 114, 110] = ([], 1) := by
  unfold readR
  rw [if_pos (by decide)]
  have : wholeT [102, 117, 110, 99, 32, 48, 32, 48, 10, 112, 117, 115, 104, 32, 49, 10, 114, 101, 116, 117, 114, 110] = none := by
    unfold wholeT
    rw [show linesT [102, 117, 110, 99, 32, 48, 32, 48, 10, 112, 117, 115, 104, 32, 49, 10, 114, 101, 116, 117, 114, 110] = none by decide]
  rw [this]
theorem textBegun_any (w : World) (he : EnvT w) (hk : KindsAt w) : Calls Tryd.prog 7 #[] w fun e w' => e = .returned (.bool true) ∧ Kept w w' := by
  obtain ⟨rest, hrest⟩ := cnt_head
  have HC : Hid (∀ u, Kept w u → Calls Tryd.prog 15 #[] u fun e w' => ∃ oa n cap, e = .returned (.slice oa n cap) ∧ ProgAt w' (.slice oa n cap) cntL ∧ Kept u w') := hide fun u _ => (count_any u).mono fun _ _ ⟨v, h1, h2, h3⟩ => by
    obtain ⟨oa, cap, e, _⟩ := id h2.prog
    subst e
    exact ⟨_, _, _, h1, h2.prog, h3⟩
  have HSH : Hid (∀ u v, Kept w u → ProgAt u v cntL → Calls Tryd.prog 4 #[v] u fun e w' => e = .returned (.tuple #[.string ⟨(showT cntL).toArray⟩, .int .i64 0]) ∧ Kept u w') := hide fun u v hu hp => by
    have := show_any u cntL v hp (he.kept hu) (hk.kept hu)
    rwa [show showR cntL = (showT cntL, 0) from if_pos cnt_okT] at this
  have HRD : Hid (∀ u, Kept w u → Calls Tryd.prog 5 #[.string ⟨(showT cntL).toArray⟩] u fun e w' => ∃ oa n cap, e = .returned (.tuple #[.slice oa n cap, .int .i64 0]) ∧ ProgAt w' (.slice oa n cap) cntL ∧ Kept u w') := hide fun u hu => (read_any u (showT cntL) (he.kept hu) (hk.kept hu)).mono fun _ _ ⟨oa, n, cap, h1, _, h3, h4, _⟩ => by
    rw [read_show cnt_okT] at h1 h3
    exact ⟨oa, n, cap, h1, h3, h4⟩
  have HRB : Hid (∀ u, Kept w u → Calls Tryd.prog 5 #[.string ⟨#[102, 117, 110, 99, 32, 48, 32, 48, 10, 112, 117, 115, 104, 32, 49, 10, 114, 101, 116, 117, 114, 110]⟩] u fun e w' => ∃ oa n cap, e = .returned (.tuple #[.slice oa n cap, .int .i64 1]) ∧ Kept u w') := hide fun u hu => (read_any u [102, 117, 110, 99, 32, 48, 32, 48, 10, 112, 117, 115, 104, 32, 49, 10, 114, 101, 116, 117, 114, 110] (he.kept hu) (hk.kept hu)).mono fun _ _ ⟨oa, n, cap, h1, _, h3, h4, _⟩ => by
    rw [bad_read] at h1
    exact ⟨oa, n, cap, h1, h4⟩
  have HSP : Hid (∀ u v1 v2, ProgAt u v1 cntL → ProgAt u v2 cntL → Calls Tryd.prog 6 #[v1, v2] u fun e w' => e = .returned (.bool true) ∧ Kept u w') := hide fun u v1 v2 h1 h2 => sameProgsF cntL v1 v2 u h1 h2
  have hsz : (ByteArray.mk (showT cntL).toArray).size = 31 + rest.length := by simp [ByteArray.size, hrest]; omega
  have hex : (ByteArray.mk (showT cntL).toArray).extract 0 30 = ⟨#[102, 117, 110, 99, 32, 48, 32, 49, 10, 109, 97, 107, 101, 32, 49, 10, 115, 116, 111, 114, 101, 32, 48, 10, 108, 111, 97, 100, 32, 48]⟩ := by
    rw [hrest]
    apply ByteArray.ext
    apply Array.ext'
    rw [Lib.extract_from_zero]
    rfl
  have hcx : (ByteArray.mk #[102, 117, 110, 99, 32, 48, 32, 49, 10, 109, 97, 107, 101, 32, 49, 10, 115, 116, 111, 114, 101, 32, 48, 10, 108, 111, 97, 100, 32, 48]).extract 0 30 = ⟨#[102, 117, 110, 99, 32, 48, 32, 49, 10, 109, 97, 107, 101, 32, 49, 10, 115, 116, 111, 114, 101, 32, 48, 10, 108, 111, 97, 100, 32, 48]⟩ := by
    apply ByteArray.ext
    apply Array.ext'
    rw [Lib.extract_from_zero]
    rfl
  generalize (ByteArray.mk (showT cntL).toArray) = S at *
  generalize rest.length = rl at *
  clear hrest he hk
  go_enter Tryd.func7, Tryd.ntmps7
  go_wp2_with fail
  refine ((unhide HC) w (Kept.refl w)).mono ?_
  rintro _ w1 ⟨o1, n1, c1, rfl, p1, k1⟩
  have HK := hide k1
  have HP := hide p1
  clear p1 k1
  go_wp2_with fail
  refine ((unhide HSH) _ _ (unhide HK) (unhide HP)).mono ?_
  rintro _ w2 ⟨rfl, k2⟩
  replace HK := hide ((unhide HK).trans k2)
  clear k2 HP HSH
  go_wp2_with fail
  refine ((unhide HRD) _ (unhide HK)).mono ?_
  rintro _ w3 ⟨o3, n3, c3, rfl, p3, k3⟩
  replace HK := hide ((unhide HK).trans k3)
  have HP := hide p3
  clear k3 p3 HRD
  go_wp2_with fail
  refine ((unhide HRB) _ (unhide HK)).mono ?_
  rintro _ w4 ⟨o4, n4, c4, rfl, k4⟩
  replace HK := hide ((unhide HK).trans k4)
  replace HP := hide ((unhide HP).kept k4)
  clear k4 HRB
  go_wp2_with fail
  refine wp_region_held_drew (S := fun y => Kept w4 y) (by kernel_rfl) ((Kept.refl w4).drew) (fun hHeld => ?_)
  refine planY [0, 1, 2, 3, 4, 5, 6, 7, 8, 9, 10, 11] ?_
  repeat
    refine takeY (v := ?_) hHeld (fun u hSu => ?_) ?_
    rotate_left
    · ((try dsimp only at hSu); go_simp) <;> with_reducible rfl
    try simp only [Act.put, List.setIfInBounds_toArray, List.set_cons_zero, List.set_cons_succ]
  refine endY ?_
  have HC2 := hide ((unhide HC) w4.drew ((unhide HK).trans hHeld))
  refine take_one (i := 12) rfl (by kernel_rfl) (fun K hK => ?_)
  go_simp
  refine (unhide HC2).mono ?_
  rintro _ w5 ⟨o5, n5, c5, rfl, p5, k5⟩
  have HP5 := hide p5
  refine hK.out _ _ (hHeld.trans k5) (fun hHeld => ?_)
  clear hK K p5 k5 HC2 HC
  try simp only [Act.put, List.setIfInBounds_toArray, List.set_cons_zero, List.set_cons_succ]
  have HS2 := hide ((unhide HSP) w5 _ _ ((unhide HP).kept hHeld) (unhide HP5))
  refine take_one (i := 13) rfl (by kernel_rfl) (fun K hK => ?_)
  go_simp
  refine (unhide HS2).mono ?_
  rintro _ w6 ⟨rfl, k6⟩
  refine hK.out _ _ (hHeld.trans k6) (fun hHeld => ?_)
  clear hK K k6 HS2 HSP HP HP5
  try simp only [Act.put, List.setIfInBounds_toArray, List.set_cons_zero, List.set_cons_succ]
  have hl30 : (30 : Int) < 31 + (rl : Int) := by omega
  have hl31 : (30 : Int) ≤ 31 + (rl : Int) := by omega
  refine planY [14, 15, 16, 17, 18, 19, 20, 21, 22, 23, 24, 25, 26] ?_
  repeat
    refine takeY (v := ?_) hHeld (fun u hSu => ?_) ?_
    rotate_left
    · ((try dsimp only at hSu); go_simp) <;> with_reducible rfl
    try simp only [Act.put, List.setIfInBounds_toArray, List.set_cons_zero, List.set_cons_succ]
  refine endY ?_
  refine wpAnyH_done (by kernel_rfl) ?_ _
  have HKF := hide ((unhide HK).trans hHeld)
  go_wp2_with fail
  go_ret
  exact ⟨rfl, unhide HKF⟩
def GivesPr (f : FuncId) (args : Array Value) (u : World) (p : List Fn) (er : Int) : Prop := Calls Tryd.prog f args u fun e w' => ∃ oa n cap, e = .returned (.tuple #[.slice oa n cap, .int .i64 er]) ∧ ProgAt w' (.slice oa n cap) p ∧ Kept u w'
theorem textBack_w (w : World) (oa : Option Addr) (n cap : Nat) (p y : List Fn) (er g : Int) (T S : ByteArray) (hp : Hid (ProgAt w (.slice oa n cap) p))
    (HSH : Hid (∀ u, Kept w u → Calls Tryd.prog 4 #[.slice oa n cap] u fun e w' => e = .returned (.tuple #[.string T, .int .i64 er]) ∧ Kept u w'))
    (HRT : Hid (er = 0 → ∀ u, Kept w u → GivesPr 5 #[.string T] u p 0))
    (HRS : Hid (∀ u, Kept w u → GivesPr 5 #[.string S] u y g))
    (HSY : Hid (g = 0 → ∀ u v, Kept w u → ProgAt u v y → Calls Tryd.prog 4 #[v] u fun e w' => e = .returned (.tuple #[.string S, .int .i64 0]) ∧ Kept u w'))
    (HSP : Hid (∀ u v1 v2, ProgAt u v1 p → ProgAt u v2 p → Calls Tryd.prog 6 #[v1, v2] u fun e w' => e = .returned (.bool true) ∧ Kept u w'))
    (HTB : Hid (∀ u, Kept w u → Calls Tryd.prog 7 #[] u fun e w' => e = .returned (.bool true) ∧ Kept u w')) :
    Calls Tryd.prog 3 #[.slice oa n cap, .string S] w fun e w' => e = .returned (.bool true) ∧ Kept w w' := by
  unfold GivesPr at HRT HRS
  by_cases he : er = 0
  · subst he
    replace HRT := hide ((unhide HRT) rfl)
    go_enter Tryd.func3, Tryd.ntmps3
    go_wp2_with fail
    refine ((unhide HSH) w (Kept.refl w)).mono ?_
    rintro _ w1 ⟨rfl, k1⟩
    have HK := hide k1
    clear k1 HSH
    go_wp2_with fail
    refine ((unhide HRT) _ (unhide HK)).mono ?_
    rintro _ w2 ⟨o2, n2, c2, rfl, p2, k2⟩
    replace HK := hide ((unhide HK).trans k2)
    have HC := hide ((unhide HSP) w2 _ _ p2 ((unhide hp).kept (unhide HK)))
    clear k2 p2 HRT HSP
    go_wp2_with fail
    refine (unhide HC).mono ?_
    rintro _ w3 ⟨rfl, k3⟩
    replace HK := hide ((unhide HK).trans k3)
    clear k3 HC
    go_wp2_with fail
    refine ((unhide HRS) _ (unhide HK)).mono ?_
    rintro _ w4 ⟨o4, n4, c4, rfl, p4, k4⟩
    replace HK := hide ((unhide HK).trans k4)
    have HP4 := hide p4
    clear k4 p4 HRS
    by_cases hg : g = 0
    · subst hg
      replace HSY := hide ((unhide HSY) rfl)
      go_wp2_with fail
      refine ((unhide HSY) _ _ (unhide HK) (unhide HP4)).mono ?_
      rintro _ w5 ⟨rfl, k5⟩
      replace HK := hide ((unhide HK).trans k5)
      clear k5 HSY
      go_wp2_with fail
      refine ((unhide HTB) _ (unhide HK)).mono ?_
      rintro _ w6 ⟨rfl, k6⟩
      replace HK := hide ((unhide HK).trans k6)
      clear k6 HTB
      go_wp2_with fail
      go_ret
      exact ⟨rfl, unhide HK⟩
    · have hg2 : (g == 0) = false := by simpa using hg
      clear HSY hg
      go_wp2_with fail
      refine ((unhide HTB) _ (unhide HK)).mono ?_
      rintro _ w6 ⟨rfl, k6⟩
      replace HK := hide ((unhide HK).trans k6)
      clear k6 HTB
      go_wp2_with fail
      go_ret
      exact ⟨rfl, unhide HK⟩
  · have he2 : (er == 0) = false := by simpa using he
    clear HRT HSP he
    go_enter Tryd.func3, Tryd.ntmps3
    go_wp2_with fail
    refine ((unhide HSH) w (Kept.refl w)).mono ?_
    rintro _ w1 ⟨rfl, k1⟩
    have HK := hide k1
    clear k1 HSH
    go_wp2_with fail
    refine ((unhide HRS) _ (unhide HK)).mono ?_
    rintro _ w4 ⟨o4, n4, c4, rfl, p4, k4⟩
    replace HK := hide ((unhide HK).trans k4)
    have HP4 := hide p4
    clear k4 p4 HRS
    by_cases hg : g = 0
    · subst hg
      replace HSY := hide ((unhide HSY) rfl)
      go_wp2_with fail
      refine ((unhide HSY) _ _ (unhide HK) (unhide HP4)).mono ?_
      rintro _ w5 ⟨rfl, k5⟩
      replace HK := hide ((unhide HK).trans k5)
      clear k5 HSY
      go_wp2_with fail
      refine ((unhide HTB) _ (unhide HK)).mono ?_
      rintro _ w6 ⟨rfl, k6⟩
      replace HK := hide ((unhide HK).trans k6)
      clear k6 HTB
      go_wp2_with fail
      go_ret
      exact ⟨rfl, unhide HK⟩
    · have hg2 : (g == 0) = false := by simpa using hg
      clear HSY hg
      go_wp2_with fail
      refine ((unhide HTB) _ (unhide HK)).mono ?_
      rintro _ w6 ⟨rfl, k6⟩
      replace HK := hide ((unhide HK).trans k6)
      clear k6 HTB
      go_wp2_with fail
      go_ret
      exact ⟨rfl, unhide HK⟩
theorem textBack_walk (p : List Fn) (vp : Value) (sb : ByteArray) (w : World) (hp : ProgAt w vp p) (hk : KindsAt w) (he : EnvT w) :
    Calls Tryd.prog 3 #[vp, .string sb] w fun e w' => e = .returned (.bool true) ∧ Kept w w' := by
  obtain ⟨l, rfl⟩ : ∃ l : List UInt8, sb = ⟨l.toArray⟩ := ⟨sb.data.toList, by cases sb; simp⟩
  obtain ⟨oa, cap, rfl, _⟩ := id hp
  refine textBack_w w oa p.length cap p (readR l).1 (showR p).2 (readR l).2 ⟨(showR p).1.toArray⟩ ⟨l.toArray⟩ (hide hp) (hide fun u hu => show_any u p _ (hp.kept hu) (he.kept hu) (hk.kept hu)) (hide fun h0 u hu => ?_) (hide fun u hu => ?_) (hide fun h0 u v hu hv => ?_) (hide fun u v1 v2 h1 h2 => sameProgsF p v1 v2 u h1 h2) (hide fun u hu => textBegun_any u (he.kept hu) (hk.kept hu))
  · have hz : progS p = 0 := by
      unfold showR at h0
      by_cases hz : progS p = 0
      · exact hz
      · rw [if_neg hz] at h0; exact h0
    rw [show showR p = (showT p, 0) from if_pos hz]
    exact (read_any u (showT p) (he.kept hu) (hk.kept hu)).mono fun _ _ ⟨oa, n, cap, h1, _, h3, h4, _⟩ => by
      rw [read_show hz] at h1 h3
      exact ⟨oa, n, cap, h1, h3, h4⟩
  · exact (read_any u l (he.kept hu) (hk.kept hu)).mono fun _ _ ⟨oa, n, cap, h1, _, h3, h4, _⟩ => ⟨oa, n, cap, h1, h3, h4⟩
  · obtain ⟨q1, q2⟩ := read_ok h0
    have := show_any u _ v hv (he.kept hu) (hk.kept hu)
    rwa [show showR (readR l).1 = (l, 0) by unfold showR; rw [if_pos q1, q2]] at this
open Go.RowKit Go.ChangeShapes Go.WideShapes Go.ChangeAt
theorem laidT_at {H : Type} (i : Nat) (h : i < 17) : ([.agg [.lit (.string [112, 117, 115, 104]), .lit (.int .i64 1)], .agg [.lit (.string [112, 111, 112]), .lit (.int .i64 0)], .agg [.lit (.string [108, 111, 97, 100]), .lit (.int .i64 1)], .agg [.lit (.string [115, 116, 111, 114, 101]), .lit (.int .i64 1)], .agg [.lit (.string [97, 100, 100]), .lit (.int .i64 0)], .agg [.lit (.string [115, 117, 98]), .lit (.int .i64 0)], .agg [.lit (.string [109, 117, 108]), .lit (.int .i64 0)], .agg [.lit (.string [108, 101, 115, 115]), .lit (.int .i64 0)], .agg [.lit (.string [115, 97, 109, 101]), .lit (.int .i64 0)], .agg [.lit (.string [106, 117, 109, 112]), .lit (.int .i64 1)], .agg [.lit (.string [122, 101, 114, 111]), .lit (.int .i64 1)], .agg [.lit (.string [99, 97, 108, 108]), .lit (.int .i64 1)], .agg [.lit (.string [114, 101, 116, 117, 114, 110]), .lit (.int .i64 0)], .agg [.lit (.string [109, 97, 107, 101]), .lit (.int .i64 1)], .agg [.lit (.string [114, 101, 115, 117, 109, 101]), .lit (.int .i64 0)], .agg [.lit (.string [121, 105, 101, 108, 100]), .lit (.int .i64 0)], .agg [.lit (.string [112, 117, 116]), .lit (.int .i64 0)]] : List (DataW H))[i]? = some (.agg [.lit (.string (tkS.getD i ([], 0)).1), .lit (.int .i64 ((tkS.getD i ([], 0)).2 : Nat))]) := by
  have : i = 0 ∨ i = 1 ∨ i = 2 ∨ i = 3 ∨ i = 4 ∨ i = 5 ∨ i = 6 ∨ i = 7 ∨ i = 8 ∨ i = 9 ∨ i = 10 ∨ i = 11 ∨ i = 12 ∨ i = 13 ∨ i = 14 ∨ i = 15 ∨ i = 16 := by omega
  rcases this with rfl | rfl | rfl | rfl | rfl | rfl | rfl | rfl | rfl | rfl | rfl | rfl | rfl | rfl | rfl | rfl | rfl <;> rfl
theorem gTK : Tryd.prog.globalNamed "glebe/text.kinds" = some 0 := by kernel_rfl
theorem gTKType : (Tryd.prog.globals[0]?).map (·.type) = some 59 := by kernel_rfl
theorem cellsTK : Tryd.prog.cellsOf 58 = 2 := by kernel_rfl
theorem cellsStr : Tryd.prog.cellsOf 9 = 1 := by kernel_rfl
theorem cellsIntT : Tryd.prog.cellsOf 3 = 1 := by kernel_rfl
theorem typeTK : ∃ f0 f1 : Field, Tryd.prog.underlying 58 = some (.struct #[f0, f1]) ∧ f0.type = 9 ∧ f0.offset = 0 ∧ f1.type = 3 ∧ f1.offset = 1 := ⟨_, _, Tryd.underlying58, rfl, rfl, rfl, rfl⟩
theorem tk_of_reads {W : World} (h : Lib.VarReads Tryd.prog W "glebe/text.kinds" Rows.laid_glebe_text_kinds) : TKAt W := by
  obtain ⟨g', t', cs, fuel, p, hg', ht', hvar, hd⟩ := h
  obtain rfl := Option.some.inj (gTK.symm.trans hg')
  obtain rfl := Option.some.inj (gTKType.symm.trans ht')
  obtain ⟨xs, m, _, hx, _, hxl, hi⟩ := DataW.trod_array Tryd.underlying59 hd
  have hagg : (Rows.laid_glebe_text_kinds : DataW Unit) = .agg (xs.map (·.1)) := congrArg Prod.fst hx
  have hl : ∀ i, i < 17 → (xs[i]?).map (·.1) = some (.agg [.lit (.string (tkS.getD i ([], 0)).1), .lit (.int .i64 ((tkS.getD i ([], 0)).2 : Nat))]) := by
    intro i hi17
    rw [← List.getElem?_map, ← laidT_at i hi17]
    unfold Rows.laid_glebe_text_kinds at hagg
    rw [← DataW.agg.inj hagg]
  intro i hi17
  have h1 := hi i hi17
  obtain ⟨x, hxi, hx1⟩ := Option.map_eq_some_iff.1 (hl i hi17)
  rw [hxi, cellsTK] at h1
  obtain ⟨f0, f1, hu, t0, o0, t1, o1⟩ := typeTK
  obtain ⟨y0, y1, n', hy, _, g0, g1⟩ := trod_struct2 hu h1
  rw [t0, o0, cellsStr] at g0
  rw [t1, o1, cellsIntT] at g1
  obtain ⟨s, e0, r0, _⟩ := DataW.trod_string Tryd.underlying9 g0
  obtain ⟨z1, e1, r1, _⟩ := DataW.trod_int Tryd.underlying3 g1
  rw [hy, r0, r1] at hx1
  simp only [DataW.agg.injEq, List.cons.injEq, DataW.lit.injEq, Lit.string.injEq, Lit.int.injEq, true_and, and_true] at hx1
  obtain ⟨q0, rfl⟩ := hx1
  have hs : Value.string s = strV (tkS.getD i ([], 0)).1 := by rw [← q0]; cases s; simp [strV]
  rw [World.var?_cell gTK hvar, World.var?_cell gTK hvar, ← hs]
  constructor
  · have := congrArg (·[0]?) e0
    simpa [List.getElem?_take, List.getElem?_drop] using this
  · have := congrArg (·[0]?) e1
    simpa [List.getElem?_take, List.getElem?_drop, Nat.add_comm, Nat.add_left_comm] using this
theorem err_of_reads {W : World} {n nm : String} {d : DataW Unit} {g : Nat} {ti : TypeId} {ms : Array (String × TypeId)} (hg : Tryd.prog.globalNamed n = some g) (ht : (Tryd.prog.globals[g]?).map (·.type) = some ti) (hi : Tryd.prog.underlying ti = some (.interface ms)) (h : Lib.VarReads Tryd.prog W n (.iface nm d)) : ∃ t p, W.var? Tryd.prog n = some #[.iface t p] := by
  obtain ⟨g', t', cs, fuel, p, hg', ht', hvar, hd⟩ := h
  obtain rfl := Option.some.inj (hg.symm.trans hg')
  obtain rfl := Option.some.inj (ht.symm.trans ht')
  obtain ⟨_, u, v, e, _⟩ := iface_of_trod hi hd
  refine ⟨u, v, hvar.trans (congrArg some ?_)⟩
  cases cs
  simpa using e
theorem env_of_laid {W : World} (h : laidMetH Tryd.prog Rows.textBackRow.laid W) (hsh : W.ShapedOpen Tryd.prog) : EnvT W ∧ KindsAt W := by
  have hM : laidMet Tryd.prog Rows.textBackRow.laid W := by rw [← MakeChecks.laidMetH_plain _ _ _ (by kernel_rfl)]; exact h
  refine ⟨⟨?_, ⟨?_, ?_⟩, ?_, Tryd.laysM146.s1_3 W hsh⟩, ?_⟩
  · exact Lib.tabIs_of_head (rest := []) (g := 3) (t := 116) (e := 105) (n := 20) (by kernel_rfl) (by kernel_rfl) (by kernel_rfl) (by kernel_rfl) (by kernel_rfl) (by kernel_rfl) (hM.filter (fun x => x.1 == "internal/strconv.uint64pow10"))
  · exact err_of_reads (g := 6) (ti := 40) (by kernel_rfl) (by kernel_rfl) Tryd.underlying40 (Lib.laidMet.reads hM (n := "strconv.ErrSyntax") (d := Rows.laid_strconv_ErrSyntax) (by simp [Rows.textBackRow]))
  · exact err_of_reads (g := 7) (ti := 40) (by kernel_rfl) (by kernel_rfl) Tryd.underlying40 (Lib.laidMet.reads hM (n := "strconv.ErrRange") (d := Rows.laid_strconv_ErrRange) (by simp [Rows.textBackRow]))
  · exact tk_of_reads (Lib.laidMet.reads hM (by simp [Rows.textBackRow]))
  · exact kinds_of_laid (h.filter (fun x => x.1 == "glebe/op.kinds"))
end Go.Proofs.YtjioipkfnekigaaDoor
