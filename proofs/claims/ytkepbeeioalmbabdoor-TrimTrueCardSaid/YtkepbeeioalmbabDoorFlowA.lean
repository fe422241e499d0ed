/-
  Contracts of package flow's behind and following.
-/
import Derived.Test.YtkepbeeioalmbabDoorOpL0
import Derived.Test.YtkepbeeioalmbabDoorHide
import Derived.Test.YtkepbeeioalmbabDoorFlowS
import Derived.Test.YtkepbeeioalmbabDoorOpM
import Derived.Test.YtkepbeeioalmbabDoorBlocks
namespace Go.Proofs.YtkepbeeioalmbabDoor
open Go.RowKit

/-- What behind hands back. -/
def BehPost (p : List Fn) (x : Int × Int) (h : Int) (w : World) (e : Ending) (w' : World) : Prop :=
  ∃ r, e = .returned (.tuple #[.int .i64 r, .bool (beh p x h).isSome]) ∧ (∀ m, beh p x h = some m → r = m) ∧ Kept w w'

set_option maxHeartbeats 1000000 in
theorem behind_any (p : List Fn) (g : Fn) (vp : Value) (oc oh : Option Addr) (lc cc lh ch : Nat) (x : Int × Int) (h : Int) (w : World) (hp : ProgAt w vp p) (hk : KindsAt w) (hx : opS p g x = 0) (h0 : 0 ≤ h) (h8 : h ≤ 8) :
    Calls Tryd.prog 44 #[.agg #[vp, .slice oc lc cc, .slice oh lh ch], .agg #[.int .i64 x.1, .int .i64 x.2], .int .i64 h] w fun e w' => BehPost p x h w e w' := by
  obtain ⟨oa, cap, rfl, _, _⟩ := id hp
  have hef : ∃ ta lb, effS p x.1 x.2 = (ta, lb, 0) ∧ 0 ≤ ta ∧ ta ≤ 4 ∧ 0 ≤ lb ∧ lb ≤ 1 := by
    by_cases h11 : x.1 = 11
    · obtain ⟨_, _, h3, h4⟩ := effS_call hx h11
      refine ⟨_, _, h4, h3, ?_, by decide, by decide⟩
      obtain ⟨_, _, hm⟩ := opS_kind hx
      rw [h11] at hm
      have := (mayB4 (show mayB p g 4 x.2 = true from hm)).2.2
      rw [roomB_iff] at this
      omega
    · obtain ⟨ta, lb, h1, h2, h3, h4, h5⟩ := effS_plain hx h11
      exact ⟨ta, lb, h1, h2, by omega, h4, h5⟩
  obtain ⟨ta, lb, he, t0, t4, l0, l1⟩ := hef
  have hb : beh p x h = if ta ≤ h ∧ ¬ (x.1 = 12 ∧ 1 < h) ∧ h - ta + lb ≤ 8 then some (h - ta + lb) else none := by
    unfold beh; rw [he]; simp
  have HB := hide hb
  have HE := hide he
  have HP := hide hp
  have HK := hide hk
  clear he hp hk hb hx
  go_enter Tryd.func44, Tryd.ntmps44
  go_wp2_with fail
  refine (effect_is p _ x.1 x.2 ta lb 0 _ ((unhide HP).kept (((Kept.refl _).alloc _).alloc _)) ((unhide HK).kept (((Kept.refl _).alloc _).alloc _)) (unhide HE)).mono ?_
  rintro e w1 ⟨rfl, hk1⟩
  have q0 := hk1.cell (cell_lays (t := 38) (fr := (0, 0)) (b := w.heap.size + 1) (c := #[.int .i64 x.1, .int .i64 x.2]) (lays_new (by simp)) 0)
  have H1 : Hid (Kept w w1) := (((Kept.refl _).alloc _).alloc _).trans hk1
  clear hk1
  by_cases c1 : h < ta
  · go_wp2
    go_ret2
    have hb := unhide HB
    rw [if_neg (by omega)] at hb
    exact ⟨0, by rw [hb]; rfl, (fun m hm => by rw [hb] at hm; cases hm), H1⟩
  · by_cases c2 : x.1 = 12
    · have c2' : (x.1 == 12) = true := beq_iff_eq.2 c2
      have C2 := hide c2
      clear c2
      by_cases c3 : 1 < h
      · go_wp2
        go_ret2
        have c2 := unhide C2
        have hb := unhide HB
        rw [if_neg (by omega)] at hb
        exact ⟨0, by rw [hb]; rfl, (fun m hm => by rw [hb] at hm; cases hm), H1⟩
      · go_wp2
        go_ret2
        have hb := unhide HB
        refine ⟨h - ta + lb, ?_, fun m hm => ?_, H1⟩
        · by_cases c4 : h - ta + lb ≤ 8
          · rw [hb, if_pos (by omega)]; simp [c4]
          · rw [hb, if_neg (by omega)]; simp [c4]
        · rw [hb] at hm
          split at hm
          · simpa using hm
          · cases hm
    · have c2' : (x.1 == 12) = false := beq_eq_false_iff_ne.2 c2
      have C2 := hide c2
      clear c2
      go_wp2
      go_ret2
      have c2 := unhide C2
      have hb := unhide HB
      refine ⟨h - ta + lb, ?_, fun m hm => ?_, H1⟩
      · by_cases c4 : h - ta + lb ≤ 8
        · rw [hb, if_pos (by omega)]; simp [c4]
        · rw [hb, if_neg (by omega)]; simp [c4]
      · rw [hb] at hm
        split at hm
        · simpa using hm
        · cases hm

set_option maxHeartbeats 400000 in
theorem following_any (kd a at_ : Int) (w : World) :
    Calls Tryd.prog 45 #[.agg #[.int .i64 kd, .int .i64 a], .int .i64 at_] w fun e w' =>
      e = .returned (.func (.func 52) #[] #[.pointer (some ⟨w.heap.size, 0, none⟩), .pointer (some ⟨w.heap.size + 1, 0, none⟩)]) ∧ w' = (w.alloc (.cells #[.int .i64 kd, .int .i64 a] 38)).alloc (.cells #[.int .i64 at_] 3) := by
  go_enter Tryd.func45, Tryd.ntmps45
  go_wp2
  go_ret
  exact ⟨rfl, rfl⟩
end Go.Proofs.YtkepbeeioalmbabDoor
