/-
  The contract of the reference's SameInts.
-/
import Derived.Test.YtkepbeeioalmbabDoorFlowG
namespace Go.Proofs.YtkepbeeioalmbabDoor
open Go.RowKit

theorem sameFrom {l1 l2 : List Int} (hl : l1.length = l2.length) (h : ∀ i, i < l1.length → l1.getD i 0 = l2.getD i 0) : l1 = l2 := by
  apply List.ext_getElem hl
  intro k h1 h2
  have := h k h1
  simpa [List.getD, h1, h2] using this

set_option maxHeartbeats 1000000 in
theorem sameInts_any (l1 l2 : List Int) (v1 v2 : Value) (w : World) (h1 : IntsAt w v1 l1) (h2 : IntsAt w v2 l2) :
    Calls Tryd.prog 23 #[v1, v2] w fun e w' => e = .returned (.bool (decide (l1 = l2))) ∧ Kept w w' := by
  obtain ⟨oa, ca, rfl, n1, i1⟩ := h1
  obtain ⟨ob, cb, rfl, n2, i2⟩ := h2
  by_cases hl : l1.length = l2.length
  · have HI1 := hide i1
    have HI2 := hide i2
    have HL := hide hl
    have hl' : ((l1.length : Int) != (l2.length : Int)) = false := by rw [hl]; simp
    clear i1 i2 hl
    go_enter Tryd.func23, Tryd.ntmps23
    go_wp2
    go_loopw [5] (fun s5 wr => ∃ k : Nat, k ≤ l1.length ∧ s5 = .int .i64 k ∧ Hid (∀ i, i < k → l1.getD i 0 = l2.getD i 0) ∧ Hid (Kept w wr)) (fun s5 _ => l1.length - (intOf s5).toNat)
    case atStart => exact ⟨0, Nat.zero_le _, rfl, (fun i hi => by omega), Kept.refl _⟩
    case round =>
      obtain ⟨k, hkm, rfl, HA, HKr⟩ := hrel
      by_cases hlt : k < l1.length
      · have hlt2 : k < l2.length := by have := unhide HL; omega
        obtain ⟨b1, o1, e1, c1⟩ := (unhide HI1) k _ (getD_of_lt l1 k 0 hlt)
        obtain ⟨b2, o2, e2, c2⟩ := (unhide HI2) k _ (getD_of_lt l2 k 0 hlt2)
        have d1 := (unhide HKr).cell c1
        have d2 := (unhide HKr).cell c2
        generalize hz1 : l1.getD k 0 = z1 at *
        generalize hz2 : l2.getD k 0 = z2 at *
        have Z1 := hide hz1
        have Z2 := hide hz2
        subst e1 e2
        clear c1 c2 hz1 hz2
        by_cases hz : z1 = z2
        · have hzb : (z1 != z2) = false := by rw [hz]; simp
          have HZ := hide hz
          clear hz
          go_wp2
          go_quiet (fail)
          go_wp2
          go_roundw
          case rel =>
            refine ⟨k + 1, by omega, by go_num, ?_, (unhide HKr).drewN _⟩
            intro i hi
            by_cases e : i = k
            · subst e; rw [unhide Z1, unhide Z2, unhide HZ]
            · exact (unhide HA) i (by omega)
          case measure => simp [intOf]; omega
        · have hzb : (z1 != z2) = true := by rw [bne_iff_ne]; exact hz
          have HZ := hide hz
          clear hz
          go_wp2
          go_quiet (fail)
          go_wp2
          go_ret
          refine ⟨?_, (unhide HKr).drewN _⟩
          rw [decide_eq_false]
          · rfl
          · intro e
            apply unhide HZ
            rw [← unhide Z1, ← unhide Z2, e]
      · go_wp2
        go_ret
        refine ⟨?_, unhide HKr⟩
        rw [decide_eq_true]
        · rfl
        · exact sameFrom (unhide HL) (fun i hi => (unhide HA) i (by omega))
  · have hl' : ((l1.length : Int) != (l2.length : Int)) = true := by rw [bne_iff_ne]; omega
    have HL := hide hl
    clear i1 i2 hl
    go_enter Tryd.func23, Tryd.ntmps23
    go_wp2
    go_ret
    refine ⟨?_, Kept.refl _⟩
    rw [decide_eq_false]
    · rfl
    · intro e; exact (unhide HL) (by rw [e])
end Go.Proofs.YtkepbeeioalmbabDoor
