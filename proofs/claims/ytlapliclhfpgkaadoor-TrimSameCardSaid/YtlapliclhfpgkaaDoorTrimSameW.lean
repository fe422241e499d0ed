/-
  The statement TrimSame: its walk, of the contracts of what it calls.
-/
import Derived.Test.YtlapliclhfpgkaaDoorTSA
namespace Go.Proofs.YtlapliclhfpgkaaDoor
open Go.RowKit

set_option maxRecDepth 100000 in
set_option maxHeartbeats 8000000 in
theorem trimSame_w (q : List Fn) (vp : Value) (c : Int) (w : World) (m : Nat) (er : Int) (l : List Int) (k : Nat) (e : Int)
    (HTA : Hid (Calls Tryd.prog 8 #[vp] w fun e w' => ∃ v, e = .returned (.tuple #[v, .int .i64 er]) ∧ ProgAt w' v q ∧ Kept w w'))
    (HCH : Hid (∀ u, Calls Tryd.prog 11 #[.int .i64 c, .int .i64 501] u fun e w' => e = .returned (.int .i64 m) ∧ w' = u))
    (HA1 : Hid (er = 0 → ∀ u, Kept w u → GivesInts 10 #[vp, .int .i64 m] u l [.int .i64 k, .int .i64 e]))
    (HA2 : Hid (er = 0 → ∀ u v, Kept w u → ProgAt u v q → GivesInts 10 #[v, .int .i64 m] u l [.int .i64 k, .int .i64 e]))
    (HSI : Hid (∀ u v1 v2, IntsW u v1 l → IntsW u v2 l → Calls Tryd.prog 12 #[v1, v2] u fun e w' => e = .returned (.bool true) ∧ Kept u w'))
    (HTB : Hid (∀ u, Kept w u → Calls Tryd.prog 9 #[] u fun e w' => e = .returned (.bool true) ∧ Kept u w')) :
    Calls Tryd.prog 3 #[vp, .int .i64 c] w fun e w' => e = .returned (.bool true) ∧ Kept w w' := by
  go_enter Tryd.func3, Tryd.ntmps3
  go_wp2_with fail
  refine (unhide HTA).mono ?_
  rintro _ w1 ⟨v, rfl, hq, hk⟩
  have HQ := hide hq
  have HK := hide hk
  clear hq hk HTA
  by_cases he : er = 0
  · subst he
    replace HA1 := hide ((unhide HA1) rfl)
    replace HA2 := hide ((unhide HA2) rfl)
    go_wp2_with fail
    refine ((unhide HCH) _).mono ?_
    rintro _ w0 ⟨rfl, hw0⟩
    subst hw0
    go_wp2_with fail
    refine ((unhide HA1) _ (unhide HK)).mono ?_
    rintro _ w2 ⟨oa, n1, c1, rfl, hn1, hc1, hi1, hk⟩
    replace HK := hide ((unhide HK).trans hk)
    replace HQ := hide ((unhide HQ).kept hk)
    have HI := hide hi1
    clear hn1 hc1 hi1 hk HA1
    go_wp2_with fail
    refine ((unhide HCH) _).mono ?_
    rintro _ w0 ⟨rfl, hw0⟩
    subst hw0
    go_wp2_with fail
    refine ((unhide HA2) _ _ (unhide HK) (unhide HQ)).mono ?_
    rintro _ w3 ⟨ob, n2, c2, rfl, hn2, hc2, hi2, hk⟩
    replace HK := hide ((unhide HK).trans hk)
    replace HI := hide ((unhide HI).kept hk)
    have HJ := hide hi2
    clear hn2 hc2 hi2 hk HA2 HQ
    go_wp2_with fail
    refine ((unhide HTB) _ (unhide HK)).mono ?_
    rintro _ w4 ⟨rfl, hk⟩
    replace HK := hide ((unhide HK).trans hk)
    replace HI := hide ((unhide HI).kept hk)
    replace HJ := hide ((unhide HJ).kept hk)
    clear hk HTB
    go_wp2_with fail
    refine ((unhide HSI) _ _ _ (unhide HI) (unhide HJ)).mono ?_
    rintro _ w5 ⟨rfl, hk⟩
    replace HK := hide ((unhide HK).trans hk)
    clear hk HSI
    go_wp2
    go_ret
    exact ⟨rfl, unhide HK⟩
  · have he' : (er != 0) = true := by rw [bne_iff_ne]; exact he
    go_wp2_with fail
    refine ((unhide HTB) _ (unhide HK)).mono ?_
    rintro _ w4 ⟨rfl, hk⟩
    replace HK := hide ((unhide HK).trans hk)
    clear hk HTB
    go_wp2
    go_ret
    exact ⟨rfl, unhide HK⟩
end Go.Proofs.YtlapliclhfpgkaaDoor
