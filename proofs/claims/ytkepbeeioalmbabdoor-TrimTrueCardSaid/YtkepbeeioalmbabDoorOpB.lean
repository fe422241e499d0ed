/-
  The contract of op.Effect: it answers what A1 says.
-/
import Derived.Test.YtkepbeeioalmbabDoorOpA
namespace Go.Proofs.YtkepbeeioalmbabDoor
open Go.RowKit

set_option maxHeartbeats 400000 in
theorem effect_bad (kd a : Int) (v : Value) (w : World) (h : ixB kd 17 = false) :
    Calls Tryd.prog 51 #[v, .agg #[.int .i64 kd, .int .i64 a]] w fun e w' => e = .returned (.tuple #[.int .i64 0, .int .i64 0, .int .i64 4]) ∧ Kept w w' := by
  go_enter Tryd.func51, Tryd.ntmps51
  go_wp2_with (go_at_call 35; refine (isIndex_any _ _ _).mono ?_; rintro e w' ⟨rfl, rfl⟩)
  go_ret3
  exact ⟨rfl, (Kept.refl _).alloc _⟩

set_option maxHeartbeats 400000 in
theorem effect_plain (k : Nat) (a : Int) (v : Value) (w : World) (hk : KindsAt w) (h : ixB k 17 = true) (hn : ((k : Int) != 11) = true) :
    Calls Tryd.prog 51 #[v, .agg #[.int .i64 k, .int .i64 a]] w fun e w' => e = .returned (.tuple #[.int .i64 (tk k), .int .i64 (lv k), .int .i64 0]) ∧ Kept w w' := by
  have hb : k < 17 := by rw [ixB_iff] at h; omega
  have c0 : (w.alloc (.cells #[.int .i64 k, .int .i64 a] 38)).cell? ⟨0, k * 3, none⟩ = some (.int .i64 (tk k)) := (Kept.alloc (Kept.refl w) _).cell (hk (k * 3) (by omega))
  have c1 : (w.alloc (.cells #[.int .i64 k, .int .i64 a] 38)).cell? ⟨0, k * 3 + 1, none⟩ = some (.int .i64 (lv k)) := (Kept.alloc (Kept.refl w) _).cell (hk (k * 3 + 1) (by omega))
  have c2 : (w.alloc (.cells #[.int .i64 k, .int .i64 a] 38)).cell? ⟨0, k * 3 + 2, none⟩ = some (.int .i64 (opd k)) := (Kept.alloc (Kept.refl w) _).cell (hk (k * 3 + 2) (by omega))
  clear hk
  go_enter Tryd.func51, Tryd.ntmps51
  go_wp2_with (go_at_call 35; refine (isIndex_any _ _ _).mono ?_; rintro e w' ⟨rfl, rfl⟩)
  go_quiet (fail)
  go_wp2
  go_ret3
  exact ⟨rfl, (((Kept.refl _).alloc _).alloc _).drewN _⟩

set_option maxHeartbeats 400000 in
theorem effect_none (a : Int) (oa : Option Addr) (n cap : Nat) (w : World) (hk : KindsAt w) (ha : ixB a n = false) :
    Calls Tryd.prog 51 #[.slice oa n cap, .agg #[.int .i64 11, .int .i64 a]] w fun e w' => e = .returned (.tuple #[.int .i64 0, .int .i64 0, .int .i64 5]) ∧ Kept w w' := by
  have h : ixB 11 17 = true := rfl
  have c0 : (w.alloc (.cells #[.int .i64 11, .int .i64 a] 38)).cell? ⟨0, 33, none⟩ = some (.int .i64 (tk 11)) := (Kept.alloc (Kept.refl w) _).cell (hk 33 (by omega))
  have c1 : (w.alloc (.cells #[.int .i64 11, .int .i64 a] 38)).cell? ⟨0, 34, none⟩ = some (.int .i64 (lv 11)) := (Kept.alloc (Kept.refl w) _).cell (hk 34 (by omega))
  have c2 : (w.alloc (.cells #[.int .i64 11, .int .i64 a] 38)).cell? ⟨0, 35, none⟩ = some (.int .i64 (opd 11)) := (Kept.alloc (Kept.refl w) _).cell (hk 35 (by omega))
  clear hk
  go_enter Tryd.func51, Tryd.ntmps51
  go_wp2_with (go_at_call 35; refine (isIndex_any _ _ _).mono ?_; rintro e w' ⟨rfl, rfl⟩)
  go_ret3
  exact ⟨rfl, (((Kept.refl _).alloc _).alloc _)⟩

set_option maxHeartbeats 400000 in
theorem effect_call (i b o n cap : Nat) (r : Int) (w : World) (hk : KindsAt w) (hi : i < n) (hc : w.cell? ⟨b, o + i * 3, none⟩ = some (.int .i64 r)) :
    Calls Tryd.prog 51 #[.slice (some ⟨b, o, none⟩) n cap, .agg #[.int .i64 11, .int .i64 i]] w fun e w' => e = .returned (.tuple #[.int .i64 r, .int .i64 1, .int .i64 0]) ∧ Kept w w' := by
  have h : ixB 11 17 = true := rfl
  have ha : ixB i n = true := ixB_true (by omega) (by omega)
  have c0 : (w.alloc (.cells #[.int .i64 11, .int .i64 i] 38)).cell? ⟨0, 33, none⟩ = some (.int .i64 0) := (Kept.alloc (Kept.refl w) _).cell (hk 33 (by omega))
  have c1 : (w.alloc (.cells #[.int .i64 11, .int .i64 i] 38)).cell? ⟨0, 34, none⟩ = some (.int .i64 1) := (Kept.alloc (Kept.refl w) _).cell (hk 34 (by omega))
  have c2 : (w.alloc (.cells #[.int .i64 11, .int .i64 i] 38)).cell? ⟨0, 35, none⟩ = some (.int .i64 4) := (Kept.alloc (Kept.refl w) _).cell (hk 35 (by omega))
  have c3 : ((w.alloc (.cells #[.int .i64 11, .int .i64 i] 38)).alloc (.cells #[.int .i64 0, .int .i64 1, .int .i64 4] 77)).cell? ⟨b, o + i * 3, none⟩ = some (.int .i64 r) := (((Kept.refl w).alloc _).alloc _).cell hc
  clear hk hc
  go_enter Tryd.func51, Tryd.ntmps51
  go_wp2_with (go_at_call 35; refine (isIndex_any _ _ _).mono ?_; rintro e w' ⟨rfl, rfl⟩)
  go_quiet (fail)
  go_wp2
  go_ret3
  exact ⟨rfl, (((Kept.refl _).alloc _).alloc _).drewN _⟩

/-- op.Effect answers what A1 says. -/
theorem effect_any (p : List Fn) (v : Value) (kd a : Int) (w : World) (hp : ProgAt w v p) (hk : KindsAt w) :
    Calls Tryd.prog 51 #[v, .agg #[.int .i64 kd, .int .i64 a]] w fun e w' => e = .returned (.tuple #[.int .i64 (effS p kd a).1, .int .i64 (effS p kd a).2.1, .int .i64 (effS p kd a).2.2]) ∧ Kept w w' := by
  unfold effS
  by_cases h : 0 ≤ kd ∧ kd < 17
  · rw [if_pos h]
    by_cases h11 : kd = 11
    · rw [if_pos h11]
      subst h11
      obtain ⟨oa, cap, rfl, hl, hi⟩ := hp
      by_cases ha : 0 ≤ a ∧ a < p.length
      · rw [if_pos ha]
        obtain ⟨i, rfl⟩ := Int.eq_ofNat_of_zero_le ha.1
        obtain ⟨b, o, cv, rfl, c0, _⟩ := hi i _ (getD_of_lt p i Fn.zero (by omega))
        rw [Int.toNat_natCast]
        exact effect_call i b o p.length cap _ w hk (by omega) c0
      · rw [if_neg ha]
        exact effect_none a oa p.length cap w hk (ixB_false ha)
    · rw [if_neg h11]
      obtain ⟨k, rfl⟩ := Int.eq_ofNat_of_zero_le h.1
      rw [Int.toNat_natCast]
      exact effect_plain k a v w hk (ixB_true h.1 h.2) (by rw [bne_iff_ne]; exact h11)
  · rw [if_neg h]
    exact effect_bad kd a v w (ixB_false h)

end Go.Proofs.YtkepbeeioalmbabDoor
