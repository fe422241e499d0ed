/-
  The contract of the reference's EffectOf.
-/
import Derived.Test.YtkepbeeioalmbaaDoorOpAr
import Derived.Test.YtkepbeeioalmbaaDoorOpC
namespace Go.Proofs.YtkepbeeioalmbaaDoor
open Go.RowKit

set_option maxHeartbeats 400000 in
theorem effectOf_bad (kd a : Int) (v : Value) (w : World) (h : inB kd 0 16 = false) :
    Calls Tryd.prog 10 #[v, .agg #[.int .i64 kd, .int .i64 a]] w fun e w' => e = .returned (.tuple #[.int .i64 0, .int .i64 0, .int .i64 4]) ∧ Kept w w' := by
  go_enter Tryd.func10, Tryd.ntmps10
  go_wp2_with (go_at_call 21; refine (within_any _ _ _ _).mono ?_; rintro e w' ⟨rfl, rfl⟩)
  go_ret3
  exact ⟨rfl, (Kept.refl _).alloc _⟩

set_option maxHeartbeats 400000 in
theorem effectOf_none (a : Int) (oa : Option Addr) (n cap : Nat) (w : World) (hn : n ≤ 8796093022208) (ha : inB a 0 ((n : Int) - 1) = false) :
    Calls Tryd.prog 10 #[.slice oa n cap, .agg #[.int .i64 11, .int .i64 a]] w fun e w' => e = .returned (.tuple #[.int .i64 0, .int .i64 0, .int .i64 5]) ∧ Kept w w' := by
  have h : inB 11 0 16 = true := rfl
  go_enter Tryd.func10, Tryd.ntmps10
  go_wp2_with (go_at_call 21; refine (within_any _ _ _ _).mono ?_; rintro e w' ⟨rfl, rfl⟩)
  go_ret3
  exact ⟨rfl, (Kept.refl _).alloc _⟩

set_option maxHeartbeats 1000000 in
theorem effectOf_plain (k : Nat) (a : Int) (v : Value) (w : World) (hb : k < 17) (hn : ((k : Int) == 11) = false) :
    Calls Tryd.prog 10 #[v, .agg #[.int .i64 k, .int .i64 a]] w fun e w' => e = .returned (.tuple #[.int .i64 (tk k), .int .i64 (lv k), .int .i64 0]) ∧ Kept w w' := by
  have h : inB k 0 16 = true := inB_true (by omega) (by omega)
  have hk : k ≠ 11 := by rw [beq_eq_false_iff_ne] at hn; omega
  go_enter Tryd.func10, Tryd.ntmps10
  go_wp2_with (go_at_call 21; refine (within_any _ _ _ _).mono ?_; rintro e w' ⟨rfl, rfl⟩)
  go_region_with (first | (go_at_call 22; refine (takes_plain _ _ _ _ hb hk).mono ?_; rintro e w' ⟨rfl, rfl⟩) | (go_at_call 23; refine (leaves_any _ _ _ hb).mono ?_; rintro e w' ⟨rfl, rfl⟩))
  all_goals go_wp2
  all_goals go_ret3
  all_goals exact ⟨rfl, by repeat (first | exact Kept.refl _ | apply Kept.drew | apply Kept.alloc)⟩

set_option maxHeartbeats 1000000 in
theorem effectOf_call (i b o n cap : Nat) (r : Int) (w : World) (hm : n ≤ 8796093022208) (hi : i < n) (hc : w.cell? ⟨b, o + i * 3, none⟩ = some (.int .i64 r)) :
    Calls Tryd.prog 10 #[.slice (some ⟨b, o, none⟩) n cap, .agg #[.int .i64 11, .int .i64 i]] w fun e w' => e = .returned (.tuple #[.int .i64 r, .int .i64 1, .int .i64 0]) ∧ Kept w w' := by
  have h : inB 11 0 16 = true := rfl
  have ha : inB i 0 ((n : Int) - 1) = true := inB_true (by omega) (by omega)
  have HC : Hid (w.cell? ⟨b, o + i * 3, none⟩ = some (.int .i64 r)) := hc
  clear hc
  go_enter Tryd.func10, Tryd.ntmps10
  go_wp2_with (go_at_call 21; refine (within_any _ _ _ _).mono ?_; rintro e w' ⟨rfl, rfl⟩)
  go_region_with (first | (go_at_call 22; refine (takes_call i b o n cap r _ hi ?_).mono ?_; (exact Kept.cell (by repeat (first | exact Kept.refl _ | apply Kept.drew | apply Kept.alloc)) HC.out); rintro e w' ⟨rfl, rfl⟩) | (go_at_call 23; refine (leaves_any 11 _ _ (by decide)).mono ?_; rintro e w' ⟨rfl, rfl⟩))
  all_goals go_wp2
  all_goals go_ret3
  all_goals exact ⟨rfl, by repeat (first | exact Kept.refl _ | apply Kept.drew | apply Kept.alloc)⟩

/-- The reference's EffectOf answers what A1 says. -/
theorem effectOf_any (p : List Fn) (v : Value) (kd a : Int) (w : World) (hp : ProgAt w v p) :
    Calls Tryd.prog 10 #[v, .agg #[.int .i64 kd, .int .i64 a]] w fun e w' => e = .returned (.tuple #[.int .i64 (effS p kd a).1, .int .i64 (effS p kd a).2.1, .int .i64 (effS p kd a).2.2]) ∧ Kept w w' := by
  unfold effS
  by_cases h : 0 ≤ kd ∧ kd < 17
  · rw [if_pos h]
    by_cases h11 : kd = 11
    · rw [if_pos h11]
      subst h11
      obtain ⟨oa, cap, rfl, hl, hi⟩ := hp
      by_cases ha : 0 ≤ a ∧ a < p.length
      · rw [if_pos ha]
        obtain ⟨i, rfl⟩ := Int.eq_ofNat_of_zero_le ha.1
        obtain ⟨b, o, cv, rfl, c0, _⟩ := hi i _ (getD_of_lt p i Fn.zero (by omega))
        rw [Int.toNat_natCast]
        exact effectOf_call i b o p.length cap _ w hl (by omega) c0
      · rw [if_neg ha]
        exact effectOf_none a oa p.length cap w hl (inB_false (by omega))
    · rw [if_neg h11]
      obtain ⟨k, rfl⟩ := Int.eq_ofNat_of_zero_le h.1
      rw [Int.toNat_natCast]
      exact effectOf_plain k a v w (by omega) (beq_eq_false_iff_ne.2 h11)
  · rw [if_neg h]
    exact effectOf_bad kd a v w (inB_false (by omega))
end Go.Proofs.YtkepbeeioalmbaaDoor
