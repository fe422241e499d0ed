/-
  The contract of the reference's SameBools.
-/
import Derived.Test.YtkepbeeioalmbabDoorProgB
namespace Go.Proofs.YtkepbeeioalmbabDoor
open Go.RowKit

theorem sameFromB {l1 l2 : List Bool} (hl : l1.length = l2.length) (h : ∀ i, i < l1.length → l1.getD i false = l2.getD i false) : l1 = l2 := by
  apply List.ext_getElem hl
  intro k h1 h2
  have := h k h1
  simpa [List.getD, h1, h2] using this

set_option maxHeartbeats 1000000 in
theorem sameBools_any (l1 l2 : List Bool) (v1 v2 : Value) (w : World) (h1 : BoolsAt w v1 l1) (h2 : BoolsAt w v2 l2) :
    Calls Tryd.prog 13 #[v1, v2] w fun e w' => e = .returned (.bool (decide (l1 = l2))) ∧ Kept w w' := by
  obtain ⟨oa, ca, rfl, n1, i1⟩ := h1
  obtain ⟨ob, cb, rfl, n2, i2⟩ := h2
  by_cases hl : l1.length = l2.length
  · have HI1 := hide i1
    have HI2 := hide i2
    have HL := hide hl
    have hl' : ((l1.length : Int) != (l2.length : Int)) = false := by rw [hl]; simp
    clear i1 i2 hl
    go_enter Tryd.func13, Tryd.ntmps13
    go_wp2
    go_loopw [5] (fun s5 wr => ∃ k : Nat, k ≤ l1.length ∧ s5 = .int .i64 k ∧ Hid (∀ i, i < k → l1.getD i false = l2.getD i false) ∧ Hid (Kept w wr)) (fun s5 _ => l1.length - (intOf s5).toNat)
    case atStart => exact ⟨0, Nat.zero_le _, rfl, (fun i hi => by omega), Kept.refl _⟩
    case round =>
      obtain ⟨k, hkm, rfl, HA, HKr⟩ := hrel
      by_cases hlt : k < l1.length
      · have hlt2 : k < l2.length := by have := unhide HL; omega
        obtain ⟨b1, o1, e1, c1⟩ := (unhide HI1) k _ (getD_of_lt l1 k false hlt)
        obtain ⟨b2, o2, e2, c2⟩ := (unhide HI2) k _ (getD_of_lt l2 k false hlt2)
        have d1 := (unhide HKr).cell c1
        have d2 := (unhide HKr).cell c2
        generalize hz1 : l1.getD k false = z1 at *
        generalize hz2 : l2.getD k false = z2 at *
        have Z1 := hide hz1
        have Z2 := hide hz2
        subst e1 e2
        clear c1 c2 hz1 hz2
        by_cases hz : z1 = z2
        · subst hz
          have HA2 : Hid (∀ i, i < k + 1 → l1.getD i false = l2.getD i false) := by
            intro i hi
            by_cases e : i = k
            · subst e; rw [unhide Z1, unhide Z2]
            · exact (unhide HA) i (by omega)
          clear HA
          cases z1
          all_goals go_wp2
          all_goals go_quiet (fail)
          all_goals go_wp2
          all_goals go_roundw
          case rel => exact ⟨k + 1, by omega, by go_num, HA2, (unhide HKr).drewN _⟩
          case measure => simp [intOf]; omega
          case rel => exact ⟨k + 1, by omega, by go_num, HA2, (unhide HKr).drewN _⟩
          case measure => simp [intOf]; omega
        · have hne : l1 ≠ l2 := by
            intro e
            apply hz
            rw [← unhide Z1, ← unhide Z2, e]
          have HD : Hid (decide (l1 = l2) = false) := decide_eq_false hne
          clear hne
          cases z1 <;> cases z2
          all_goals first | exact absurd rfl hz | clear hz
          all_goals go_wp2
          all_goals go_quiet (fail)
          all_goals go_wp2
          all_goals go_ret
          all_goals exact ⟨by rw [unhide HD]; rfl, (unhide HKr).drewN _⟩
      · go_wp2
        go_ret
        refine ⟨?_, unhide HKr⟩
        rw [decide_eq_true]
        · rfl
        · exact sameFromB (unhide HL) (fun i hi => (unhide HA) i (by omega))
  · have hl' : ((l1.length : Int) != (l2.length : Int)) = true := by rw [bne_iff_ne]; omega
    have HL := hide hl
    clear i1 i2 hl
    go_enter Tryd.func13, Tryd.ntmps13
    go_wp2
    go_ret
    refine ⟨?_, Kept.refl _⟩
    rw [decide_eq_false]
    · rfl
    · intro e; exact (unhide HL) (by rw [e])
end Go.Proofs.YtkepbeeioalmbabDoor
