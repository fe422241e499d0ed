/-
  The contracts of op.bounds' function literals, and of op.bounds.
-/
import Derived.Test.YtkepbeeioalmbabDoorOpA
import Derived.Test.YtkepbeeioalmbabDoorBlocks
import Derived.Laws.EntriesVeiled
namespace Go.Proofs.YtkepbeeioalmbabDoor
open Go.RowKit

set_option maxHeartbeats 400000 in
theorem may0_any (a : Int) (w : World) :
    Calls Tryd.prog 46 #[.int .i64 a] w fun e w' => e = .returned (.bool (a == 0)) ∧ w' = w := by
  go_enter Tryd.func46, Tryd.ntmps46
  go_wp2
  go_ret
  exact ⟨rfl, rfl⟩

set_option maxHeartbeats 400000 in
theorem may1_any (a : Int) (w : World) :
    Calls Tryd.prog 47 #[.int .i64 a] w fun e w' => e = .returned (.bool (inB a 0 999)) ∧ w' = w := by
  by_cases h1 : 0 ≤ a
  · by_cases h2 : a ≤ 999
    · rw [inB_true h1 h2]
      go_enter Tryd.func47, Tryd.ntmps47
      go_wp2
      go_ret
      exact ⟨rfl, rfl⟩
    · rw [inB_false (by omega)]
      go_enter Tryd.func47, Tryd.ntmps47
      go_wp2
      go_ret
      exact ⟨rfl, rfl⟩
  · rw [inB_false (by omega)]
    go_enter Tryd.func47, Tryd.ntmps47
    go_wp2
    go_ret
    exact ⟨rfl, rfl⟩

set_option maxHeartbeats 400000 in
theorem may2_any (a l : Int) (B : Nat) (w : World) (h : w.cell? ⟨B, 1, none⟩ = some (.int .i64 l)) :
    Calls Tryd.prog 48 #[.int .i64 a, .pointer (some ⟨B, 0, none⟩)] w fun e w' => e = .returned (.bool (ixB a l)) ∧ w' = w := by
  go_enter Tryd.func48, Tryd.ntmps48
  go_wp2_with (go_at_call 35; refine (isIndex_any _ _ _).mono ?_; rintro e w' ⟨rfl, rfl⟩)
  go_ret
  exact ⟨rfl, rfl⟩

set_option maxHeartbeats 400000 in
theorem may3_any (a : Int) (B : Nat) (oa : Option Addr) (n cap : Nat) (w : World) (h : w.cell? ⟨B, 2, none⟩ = some (.slice oa n cap)) :
    Calls Tryd.prog 49 #[.int .i64 a, .pointer (some ⟨B, 0, none⟩)] w fun e w' => e = .returned (.bool (ixB a n)) ∧ w' = w := by
  go_enter Tryd.func49, Tryd.ntmps49
  go_wp2_with (go_at_call 35; refine (isIndex_any _ _ _).mono ?_; rintro e w' ⟨rfl, rfl⟩)
  go_ret
  exact ⟨rfl, rfl⟩

set_option maxHeartbeats 400000 in
theorem may4_no (a : Int) (B : Nat) (oa : Option Addr) (n cap : Nat) (w : World) (h : w.cell? ⟨B, 0, none⟩ = some (.slice oa n cap)) (ha : ixB a n = false) :
    Calls Tryd.prog 50 #[.int .i64 a, .pointer (some ⟨B, 0, none⟩)] w fun e w' => e = .returned (.bool false) ∧ w' = w := by
  go_enter Tryd.func50, Tryd.ntmps50
  go_wp2_with (go_at_call 35; refine (isIndex_any _ _ _).mono ?_; rintro e w' ⟨rfl, rfl⟩)
  go_ret
  exact ⟨rfl, rfl⟩

set_option maxHeartbeats 400000 in
theorem may4_yes (i B b o n cap : Nat) (ar lo : Int) (cv : Value) (w : World) (h : w.cell? ⟨B, 0, none⟩ = some (.slice (some ⟨b, o, none⟩) n cap)) (hi : i < n)
    (c0 : w.cell? ⟨b, o + i * 3, none⟩ = some (.int .i64 ar)) (c1 : w.cell? ⟨b, o + i * 3 + 1, none⟩ = some (.int .i64 lo)) (c2 : w.cell? ⟨b, o + i * 3 + 2, none⟩ = some cv) :
    Calls Tryd.prog 50 #[.int .i64 i, .pointer (some ⟨B, 0, none⟩)] w fun e w' => e = .returned (.bool (roomB ar lo)) ∧ Kept w w' := by
  have ha : ixB i n = true := ixB_true (by omega) (by omega)
  go_enter Tryd.func50, Tryd.ntmps50
  go_wp2_with (first | (go_at_call 35; refine (isIndex_any _ _ _).mono ?_; rintro e w' ⟨rfl, rfl⟩) | (go_at_call 36; refine (hasRoom_any _ _ _ _).mono ?_; rintro e w' ⟨rfl, rfl⟩))
  go_ret
  exact ⟨rfl, (Kept.refl _).alloc _⟩

theorem may4_any (p : List Fn) (v : Value) (a : Int) (B : Nat) (w : World) (h : w.cell? ⟨B, 0, none⟩ = some v) (hp : ProgAt w v p) :
    Calls Tryd.prog 50 #[.int .i64 a, .pointer (some ⟨B, 0, none⟩)] w fun e w' => e = .returned (.bool (ixB a p.length && roomB (p.getD a.toNat Fn.zero).args (p.getD a.toNat Fn.zero).locals)) ∧ Kept w w' := by
  obtain ⟨oa, cap, rfl, hl, hi⟩ := hp
  by_cases ha : 0 ≤ a ∧ a < p.length
  · obtain ⟨i, rfl⟩ := Int.eq_ofNat_of_zero_le ha.1
    obtain ⟨b, o, cv, rfl, c0, c1, c2, _⟩ := hi i _ (getD_of_lt p i Fn.zero (by omega))
    rw [Int.toNat_natCast, ixB_true ha.1 ha.2, Bool.true_and]
    exact may4_yes i B b o p.length cap _ _ cv w h (by omega) c0 c1 c2
  · rw [ixB_false ha, Bool.false_and]
    exact (may4_no a B oa p.length cap w h (ixB_false ha)).mono fun e w' ⟨h1, h2⟩ => ⟨h1, h2 ▸ Kept.refl _⟩

/-- What op.bounds hands back: five functions; two of them look at the copy of f, one at the copy of p. -/
def mayV (Bp Bf : Nat) : Value := .agg #[.func (.func 46) #[] #[], .func (.func 47) #[] #[], .func (.func 48) #[] #[.pointer (some ⟨Bf, 0, none⟩)], .func (.func 49) #[] #[.pointer (some ⟨Bf, 0, none⟩)], .func (.func 50) #[] #[.pointer (some ⟨Bp, 0, none⟩)]]

set_option maxHeartbeats 400000 in
theorem bounds_any (oa : Option Addr) (n cap : Nat) (ar lo : Int) (oc : Option Addr) (m cc : Nat) (w : World) :
    Calls Tryd.prog 37 #[.slice oa n cap, .agg #[.int .i64 ar, .int .i64 lo, .slice oc m cc]] w fun e w' => ∃ Bp Bf, e = .returned (mayV Bp Bf) ∧ w'.cell? ⟨Bp, 0, none⟩ = some (.slice oa n cap) ∧ w'.cell? ⟨Bf, 1, none⟩ = some (.int .i64 lo) ∧ w'.cell? ⟨Bf, 2, none⟩ = some (.slice oc m cc) ∧ Kept w w' := by
  go_enter Tryd.func37, Tryd.ntmps37
  go_wp2
  refine bodyPost_ret (v := mayV w.heap.size (w.heap.size + 1)) (by simp [results, Tryd.results37, go_sem, mayV]) rfl ⟨w.heap.size, w.heap.size + 1, rfl, ?_, ?_, ?_, ?_⟩
  · exact cell_lays (lays_alloc (lays_alloc (lays_new rfl) _) _) 0
  · exact cell_lays (lays_alloc (lays_new (by simp)) _) 1
  · exact cell_lays (lays_alloc (lays_new (by simp)) _) 2
  · exact (((Kept.refl _).alloc _).alloc _).alloc _
end Go.Proofs.YtkepbeeioalmbabDoor
