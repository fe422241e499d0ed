/-
  The contract of the reference's CallsError: what B2 says.
-/
import Derived.Test.YtkepbeeioalmbabDoorOpAr
import Derived.Test.YtkepbeeioalmbabDoorProgD0
namespace Go.Proofs.YtkepbeeioalmbabDoor
open Go.RowKit

set_option maxHeartbeats 1000000 in
theorem callsError_any (p : List Fn) (v : Value) (f : Int) (w : World) (hp : ProgAt w v p) :
    Calls Tryd.prog 8 #[v, .int .i64 f] w fun e w' => e = .returned (.int .i64 (callE p f)) ∧ Kept w w' := by
  obtain ⟨oa, cap, rfl, hl, _⟩ := id hp
  have hpe := progError_any p _ w hp
  have HPE := hide hpe
  clear hpe hp
  unfold callE
  by_cases hz : progS p = 0
  · rw [if_pos hz]
    have hpe := unhide HPE
    rw [hz] at hpe
    have HPZ := hide hpe
    clear hpe HPE hz
    have hin := inB_ixB f p.length
    cases hb : ixB f p.length with
    | true =>
      rw [if_pos rfl]
      rw [hb] at hin
      go_enter Tryd.func8, Tryd.ntmps8
      go_wp2_with fail
      refine (unhide HPZ).mono ?_
      rintro e w1 ⟨rfl, hk1⟩
      have H1 := hide hk1
      clear hk1
      go_wp2_with (go_at_call 25; refine (within_any _ _ _ _).mono ?_; rintro e w' ⟨rfl, rfl⟩)
      go_ret
      exact ⟨rfl, unhide H1⟩
    | false =>
      rw [if_neg (by decide)]
      rw [hb] at hin
      go_enter Tryd.func8, Tryd.ntmps8
      go_wp2_with fail
      refine (unhide HPZ).mono ?_
      rintro e w1 ⟨rfl, hk1⟩
      have H1 := hide hk1
      clear hk1
      go_wp2_with (go_at_call 25; refine (within_any _ _ _ _).mono ?_; rintro e w' ⟨rfl, rfl⟩)
      go_ret
      exact ⟨rfl, unhide H1⟩
  · rw [if_neg hz]
    have hz' : (progS p != 0) = true := by rw [bne_iff_ne]; exact hz
    clear hz
    generalize progS p = r at *
    go_enter Tryd.func8, Tryd.ntmps8
    go_wp2_with fail
    refine (unhide HPE).mono ?_
    rintro e w1 ⟨rfl, hk1⟩
    have H1 := hide hk1
    clear hk1 HPE
    go_wp2
    go_ret
    exact ⟨rfl, unhide H1⟩
end Go.Proofs.YtkepbeeioalmbabDoor
