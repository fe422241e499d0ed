/- TextR -/
import Derived.Test.YtjioipkfnekigaaGreatDoorTB16
import Derived.Test.YtjioipkfnekigaaGreatDoorTB14
import Derived.Test.YtjioipkfnekigaaGreatDoorTB18
set_option maxRecDepth 100000
set_option maxHeartbeats 8000000
namespace Go.Proofs.YtjioipkfnekigaaGreatDoor
open Go.RowKit Go.Maps
def showR (p : List Fn) : List UInt8 × Int := if progS p = 0 then (showT p, 0) else ([], progS p)
theorem show_no (w : World) (p : List Fn) (vp : Value) (hp : ProgAt w vp p) (hk : KindsAt w) (hz : progS p ≠ 0) :
    Calls Tryz.prog 5 #[vp] w fun e w' => e = .returned (.tuple #[.string ⟨#[]⟩, .int .i64 (progS p)]) ∧ Kept w w' := by
  have HC := hide (progCheck_any p vp w hp hk)
  obtain ⟨oa, cap, rfl, _⟩ := hp
  generalize progS p = er at *
  generalize p.length = n at *
  have hz2 : (er == 0) = false := by simpa using hz
  clear hk
  go_enter Tryz.func5, Tryz.ntmps5
  go_wp2_with fail
  refine (unhide HC).mono ?_
  rintro _ w1 ⟨rfl, k1⟩
  have HK := hide k1
  clear k1 HC
  go_wp2_with fail
  go_ret2
  exact ⟨rfl, unhide HK⟩
theorem show_any (w : World) (p : List Fn) (vp : Value) (hp : ProgAt w vp p) (he : EnvT w) (hk : KindsAt w) :
    Calls Tryz.prog 5 #[vp] w fun e w' => e = .returned (.tuple #[.string ⟨(showR p).1.toArray⟩, .int .i64 (showR p).2]) ∧ Kept w w' := by
  unfold showR
  by_cases hz : progS p = 0
  · rw [if_pos hz]
    have HC := progCheck_any p vp w hp hk
    rw [hz] at HC
    exact show_ok w p vp hp (right_okT hz) he.tab he.kinds (hide HC)
  · rw [if_neg hz]
    exact show_no w p vp hp hk hz
theorem itoa_one (i : Nat) (h : i < 10) : Lib.itoa (i : Int) = [UInt8.ofNat (48 + i)] := by
  unfold Lib.itoa
  rw [if_neg (by omega), Int.toNat_natCast, Lib.decDigits_one h]
theorem cnt_okT : progS cntL = 0 := by decide +kernel
theorem cnt_head : ∃ rest, showT cntL = [102, 117, 110, 99, 32, 48, 32, 49, 10, 109, 97, 107, 101, 32, 49, 10, 115, 116, 111, 114, 101, 32, 48, 10, 108, 111, 97, 100, 32, 48, 10] ++ rest := by
  have i0 : Lib.itoa 0 = [48] := itoa_one 0 (by omega)
  have i1 : Lib.itoa 1 = [49] := itoa_one 1 (by omega)
  have h0 : showT cntL = lineT [102, 117, 110, 99] [0, 1] ++ opT (13, 1) ++ opT (3, 0) ++ opT (2, 0) ++ ((cnt0.drop 3).flatMap opT ++ showT cntL.tail) := by simp [showT, cntL, fnT, cnt0]
  have e1 : lineT [102, 117, 110, 99] [0, 1] = [102, 117, 110, 99, 32, 48, 32, 49, 10] := by
    unfold lineT
    rw [show ([0, 1] : List Int).map Lib.itoa = [[48], [49]] by simp [i0, i1]]
    rfl
  have e2 : opT (13, 1) = [109, 97, 107, 101, 32, 49, 10] := by
    show lineT [109, 97, 107, 101] [1] = _
    unfold lineT
    rw [show ([1] : List Int).map Lib.itoa = [[49]] by simp [i1]]
    rfl
  have e3 : opT (3, 0) = [115, 116, 111, 114, 101, 32, 48, 10] := by
    show lineT [115, 116, 111, 114, 101] [0] = _
    unfold lineT
    rw [show ([0] : List Int).map Lib.itoa = [[48]] by simp [i0]]
    rfl
  have e4 : opT (2, 0) = [108, 111, 97, 100, 32, 48, 10] := by
    show lineT [108, 111, 97, 100] [0] = _
    unfold lineT
    rw [show ([0] : List Int).map Lib.itoa = [[48]] by simp [i0]]
    rfl
  exact ⟨_, by rw [h0, e1, e2, e3, e4]; rfl⟩
theorem bad_read : readR [102, 117, 110, 99, 32, 48, 32, 48, 10, 112, 117, 115, 104, 32, 49, 10, 114, 101, 116, 117, 114, 110] = ([], 1) := by
  unfold readR
  rw [if_pos (by decide)]
  have : wholeT [102, 117, 110, 99, 32, 48, 32, 48, 10, 112, 117, 115, 104, 32, 49, 10, 114, 101, 116, 117, 114, 110] = none := by
    unfold wholeT
    rw [show linesT [102, 117, 110, 99, 32, 48, 32, 48, 10, 112, 117, 115, 104, 32, 49, 10, 114, 101, 116, 117, 114, 110] = none by decide]
  rw [this]
theorem textBegun_any (w : World) (he : EnvT w) (hk : KindsAt w) : Calls Tryz.prog 9 #[] w fun e w' => e = .returned (.bool true) ∧ Kept w w' := by
  obtain ⟨rest, hrest⟩ := cnt_head
  have HC : Hid (∀ u, Kept w u → Calls Tryz.prog 28 #[] u fun e w' => ∃ oa n cap, e = .returned (.slice oa n cap) ∧ ProgAt w' (.slice oa n cap) cntL ∧ Kept u w') := hide fun u _ => (count_any u).mono fun _ _ ⟨v, h1, h2, h3⟩ => by
    obtain ⟨oa, cap, e, _⟩ := id h2.prog
    subst e
    exact ⟨_, _, _, h1, h2.prog, h3⟩
  have HSH : Hid (∀ u v, Kept w u → ProgAt u v cntL → Calls Tryz.prog 5 #[v] u fun e w' => e = .returned (.tuple #[.string ⟨(showT cntL).toArray⟩, .int .i64 0]) ∧ Kept u w') := hide fun u v hu hp => by
    have := show_any u cntL v hp (he.kept hu) (hk.kept hu)
    rwa [show showR cntL = (showT cntL, 0) from if_pos cnt_okT] at this
  have HRD : Hid (∀ u, Kept w u → Calls Tryz.prog 8 #[.string ⟨(showT cntL).toArray⟩] u fun e w' => ∃ oa n cap, e = .returned (.tuple #[.slice oa n cap, .int .i64 0]) ∧ ProgAt w' (.slice oa n cap) cntL ∧ Kept u w') := hide fun u hu => (read_any u (showT cntL) (he.kept hu) (hk.kept hu)).mono fun _ _ ⟨oa, n, cap, h1, _, h3, h4, _⟩ => by
    rw [read_show cnt_okT] at h1 h3
    exact ⟨oa, n, cap, h1, h3, h4⟩
  have HRB : Hid (∀ u, Kept w u → Calls Tryz.prog 8 #[.string ⟨#[102, 117, 110, 99, 32, 48, 32, 48, 10, 112, 117, 115, 104, 32, 49, 10, 114, 101, 116, 117, 114, 110]⟩] u fun e w' => ∃ oa n cap, e = .returned (.tuple #[.slice oa n cap, .int .i64 1]) ∧ Kept u w') := hide fun u hu => (read_any u [102, 117, 110, 99, 32, 48, 32, 48, 10, 112, 117, 115, 104, 32, 49, 10, 114, 101, 116, 117, 114, 110] (he.kept hu) (hk.kept hu)).mono fun _ _ ⟨oa, n, cap, h1, _, h3, h4, _⟩ => by
    rw [bad_read] at h1
    exact ⟨oa, n, cap, h1, h4⟩
  have HSP : Hid (∀ u v1 v2, ProgAt u v1 cntL → ProgAt u v2 cntL → Calls Tryz.prog 11 #[v1, v2] u fun e w' => e = .returned (.bool true) ∧ Kept u w') := hide fun u v1 v2 h1 h2 => sameProgsF cntL v1 v2 u h1 h2
  have hsz : (ByteArray.mk (showT cntL).toArray).size = 31 + rest.length := by simp [ByteArray.size, hrest]; omega
  have hex : (ByteArray.mk (showT cntL).toArray).extract 0 30 = ⟨#[102, 117, 110, 99, 32, 48, 32, 49, 10, 109, 97, 107, 101, 32, 49, 10, 115, 116, 111, 114, 101, 32, 48, 10, 108, 111, 97, 100, 32, 48]⟩ := by
    rw [hrest]
    apply ByteArray.ext
    apply Array.ext'
    rw [Lib.extract_from_zero]
    rfl
  have hcx : (ByteArray.mk #[102, 117, 110, 99, 32, 48, 32, 49, 10, 109, 97, 107, 101, 32, 49, 10, 115, 116, 111, 114, 101, 32, 48, 10, 108, 111, 97, 100, 32, 48]).extract 0 30 = ⟨#[102, 117, 110, 99, 32, 48, 32, 49, 10, 109, 97, 107, 101, 32, 49, 10, 115, 116, 111, 114, 101, 32, 48, 10, 108, 111, 97, 100, 32, 48]⟩ := by
    apply ByteArray.ext
    apply Array.ext'
    rw [Lib.extract_from_zero]
    rfl
  generalize (ByteArray.mk (showT cntL).toArray) = S at *
  generalize rest.length = rl at *
  clear hrest he hk
  go_enter Tryz.func9, Tryz.ntmps9
  go_wp2_with fail
  refine ((unhide HC) w (Kept.refl w)).mono ?_
  rintro _ w1 ⟨o1, n1, c1, rfl, p1, k1⟩
  have HK := hide k1
  have HP := hide p1
  clear p1 k1
  go_wp2_with fail
  refine ((unhide HSH) _ _ (unhide HK) (unhide HP)).mono ?_
  rintro _ w2 ⟨rfl, k2⟩
  replace HK := hide ((unhide HK).trans k2)
  clear k2 HP HSH
  go_wp2_with fail
  refine ((unhide HRD) _ (unhide HK)).mono ?_
  rintro _ w3 ⟨o3, n3, c3, rfl, p3, k3⟩
  replace HK := hide ((unhide HK).trans k3)
  have HP := hide p3
  clear k3 p3 HRD
  go_wp2_with fail
  refine ((unhide HRB) _ (unhide HK)).mono ?_
  rintro _ w4 ⟨o4, n4, c4, rfl, k4⟩
  replace HK := hide ((unhide HK).trans k4)
  replace HP := hide ((unhide HP).kept k4)
  clear k4 HRB
  go_wp2_with fail
  refine wp_region_held_drew (S := fun y => Kept w4 y) (by kernel_rfl) ((Kept.refl w4).drew) (fun hHeld => ?_)
  refine planY [0, 1, 2, 3, 4, 5, 6, 7, 8, 9, 10, 11] ?_
  repeat
    refine takeY (v := ?_) hHeld (fun u hSu => ?_) ?_
    rotate_left
    · ((try dsimp only at hSu); go_simp) <;> with_reducible rfl
    try simp only [Act.put, List.setIfInBounds_toArray, List.set_cons_zero, List.set_cons_succ]
  refine endY ?_
  have HC2 := hide ((unhide HC) w4.drew ((unhide HK).trans hHeld))
  refine take_one (i := 12) rfl (by kernel_rfl) (fun K hK => ?_)
  go_simp
  refine (unhide HC2).mono ?_
  rintro _ w5 ⟨o5, n5, c5, rfl, p5, k5⟩
  have HP5 := hide p5
  refine hK.out _ _ (hHeld.trans k5) (fun hHeld => ?_)
  clear hK K p5 k5 HC2 HC
  try simp only [Act.put, List.setIfInBounds_toArray, List.set_cons_zero, List.set_cons_succ]
  have HS2 := hide ((unhide HSP) w5 _ _ ((unhide HP).kept hHeld) (unhide HP5))
  refine take_one (i := 13) rfl (by kernel_rfl) (fun K hK => ?_)
  go_simp
  refine (unhide HS2).mono ?_
  rintro _ w6 ⟨rfl, k6⟩
  refine hK.out _ _ (hHeld.trans k6) (fun hHeld => ?_)
  clear hK K k6 HS2 HSP HP HP5
  try simp only [Act.put, List.setIfInBounds_toArray, List.set_cons_zero, List.set_cons_succ]
  have hl30 : (30 : Int) < 31 + (rl : Int) := by omega
  have hl31 : (30 : Int) ≤ 31 + (rl : Int) := by omega
  refine planY [14, 15, 16, 17, 18, 19, 20, 21, 22, 23, 24, 25, 26] ?_
  repeat
    refine takeY (v := ?_) hHeld (fun u hSu => ?_) ?_
    rotate_left
    · ((try dsimp only at hSu); go_simp) <;> with_reducible rfl
    try simp only [Act.put, List.setIfInBounds_toArray, List.set_cons_zero, List.set_cons_succ]
  refine endY ?_
  refine wpAnyH_done (by kernel_rfl) ?_ _
  have HKF := hide ((unhide HK).trans hHeld)
  go_wp2_with fail
  go_ret
  exact ⟨rfl, unhide HKF⟩
end Go.Proofs.YtjioipkfnekigaaGreatDoor
