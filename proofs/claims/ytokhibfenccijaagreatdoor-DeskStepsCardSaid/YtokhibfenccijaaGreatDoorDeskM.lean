/-
  deskBegun: what must be in any case.
-/
import Derived.Test.YtokhibfenccijaaGreatDoorDeskP
namespace Go.Proofs.YtokhibfenccijaaGreatDoor
open Go.RowKit Go.Maps

theorem T1_few : T1.length ≤ 8192 ∧ Lib.countByte T1 10 ≤ 40 := by decide +kernel
theorem T2_few : T2.length ≤ 8192 ∧ Lib.countByte T2 10 ≤ 40 := by decide +kernel
set_option maxRecDepth 100000 in
set_option maxHeartbeats 4000000 in
theorem deskBegun_any (w : World) (he : EnvT w) (hk : KindsAt w) : Calls Tryz.prog 7 #[] w fun e w' => e = .returned (.bool true) ∧ Kept w w' := by
  have HC : Hid (∀ u, Kept w u → Calls Tryz.prog 24 #[] u fun e w' => ∃ oa n cap, e = .returned (.slice oa n cap) ∧ ProgAt w' (.slice oa n cap) cntL ∧ Kept u w') := hide fun u _ => (count_any u).mono fun _ _ ⟨v, h1, h2, h3⟩ => by
    obtain ⟨oa, cap, e, _⟩ := id h2.prog
    subst e
    exact ⟨_, _, _, h1, h2.prog, h3⟩
  have HSH : Hid (∀ u v, Kept w u → ProgAt u v cntL → Calls Tryz.prog 9 #[v] u fun e w' => e = .returned (.tuple #[.string ⟨(showT cntL).toArray⟩, .int .i64 0]) ∧ Kept u w') := hide fun u v hu hp => by
    have := show_any u cntL v hp (he.kept hu) (hk.kept hu)
    rwa [show showR cntL = (showT cntL, 0) from if_pos cntR] at this
  have HP1 : Hid (∀ u, Kept w u → Calls Tryz.prog 5 #[.string ⟨(showT cntL).toArray⟩, .string ⟨#[107, 105, 110, 100, 115, 10, 108, 105, 110, 101, 10, 115, 116, 101, 112, 32, 54, 10, 107, 105, 110, 100, 115, 10, 108, 105, 110, 101, 10, 111, 117, 116, 10, 115, 116, 101, 112, 32, 53, 48, 48, 10, 111, 117, 116, 10, 107, 105, 110, 100, 115, 10, 108, 105, 110, 101, 10, 104, 101, 105, 103, 104, 116, 115, 32, 50, 10, 104, 101, 105, 103, 104, 116, 115, 32, 51, 10, 116, 114, 105, 109, 10, 97, 103, 97, 105, 110, 10, 115, 116, 101, 112, 32, 53, 48, 49, 10, 115, 116, 101, 112, 10, 111, 117, 116, 10]⟩] u fun e w' => e = .returned (.tuple #[.string ⟨#[49, 10, 48, 10, 54, 10, 50, 32, 49, 10, 49, 32, 48, 10, 45, 10, 50, 50, 10, 55, 32, 56, 32, 57, 57, 10, 48, 32, 48, 10, 45, 10, 48, 32, 49, 32, 50, 32, 49, 10, 101, 114, 114, 111, 114, 32, 53, 10, 50, 56, 10, 111, 107, 10, 101, 114, 114, 111, 114, 32, 51, 10, 101, 114, 114, 111, 114, 32, 49, 10, 45, 10]⟩, .int .i64 0]) ∧ Kept u w') := hide fun u hu => by
    have := play_right u cntL T1 _ cntR (he.kept hu) (hk.kept hu) T1_few.1 T1_few.2 T1_lines
    rwa [out1] at this
  have HP2 : Hid (∀ u, Kept w u → Calls Tryz.prog 5 #[.string ⟨#[102, 117, 110, 99, 32, 48, 32, 48, 10, 112, 117, 115, 104, 32, 49, 10, 121, 105, 101, 108, 100, 10, 114, 101, 116, 117, 114, 110, 10]⟩, .string ⟨#[115, 116, 101, 112, 32, 53, 10, 115, 116, 101, 112, 32, 53, 10]⟩] u fun e w' => e = .returned (.tuple #[.string ⟨#[49, 32, 101, 114, 114, 111, 114, 32, 55, 10, 48, 32, 101, 114, 114, 111, 114, 32, 55, 10]⟩, .int .i64 0]) ∧ Kept u w') := hide fun u hu => by
    have := play_right u p2L T2 _ p2R (he.kept hu) (hk.kept hu) T2_few.1 T2_few.2 T2_lines
    rw [out2] at this
    rwa [p2_show] at this
  generalize (ByteArray.mk (showT cntL).toArray) = S at *
  clear he hk
  go_enter Tryz.func7, Tryz.ntmps7
  go_wp2_with fail
  refine ((unhide HC) w (Kept.refl w)).mono ?_
  rintro _ w1 ⟨oa, n, cap, rfl, hp, k1⟩
  have HK := hide k1
  have HS1 := hide ((unhide HSH) w1 _ k1 hp)
  clear hp k1 HC HSH
  go_wp2_with fail
  refine (unhide HS1).mono ?_
  rintro _ w2 ⟨rfl, k2⟩
  replace HK := hide ((unhide HK).trans k2)
  clear k2 HS1
  go_wp2_with fail
  refine ((unhide HP1) _ (unhide HK)).mono ?_
  rintro _ w3 ⟨rfl, k3⟩
  replace HK := hide ((unhide HK).trans k3)
  clear k3 HP1
  go_wp2_with fail
  refine ((unhide HP2) _ (unhide HK)).mono ?_
  rintro _ w4 ⟨rfl, k4⟩
  replace HK := hide ((unhide HK).trans k4)
  clear k4 HP2
  go_wp2_with fail
  go_ret
  exact ⟨rfl, unhide HK⟩
end Go.Proofs.YtokhibfenccijaaGreatDoor
