/-
  The contracts of the reference's takes, leaves, EffectOf.
-/
import Derived.Test.YtkepbeeioalmbabDoorOpA
import Derived.Deep.RegionWith
namespace Go.Proofs.YtkepbeeioalmbabDoor
open Go.RowKit

theorem cases17 {k : Nat} (h : k < 17) (h' : k ≠ 11) : k = 0 ∨ k = 1 ∨ k = 2 ∨ k = 3 ∨ k = 4 ∨ k = 5 ∨ k = 6 ∨ k = 7 ∨ k = 8 ∨ k = 9 ∨ k = 10 ∨ k = 12 ∨ k = 13 ∨ k = 14 ∨ k = 15 ∨ k = 16 := by omega

set_option maxHeartbeats 4000000 in
set_option maxRecDepth 100000 in
theorem takes_plain (k : Nat) (a : Int) (v : Value) (w : World) (h : k < 17) (h' : k ≠ 11) :
    Calls Tryd.prog 41 #[v, .agg #[.int .i64 k, .int .i64 a]] w fun e w' => e = .returned (.int .i64 (tk k)) ∧ w' = w.alloc (.cells #[.int .i64 k, .int .i64 a] 38) := by
  rcases cases17 h h' with rfl | rfl | rfl | rfl | rfl | rfl | rfl | rfl | rfl | rfl | rfl | rfl | rfl | rfl | rfl | rfl
  all_goals
    as_aux_lemma =>
      go_enter Tryd.func41, Tryd.ntmps41
      go_wp2
      go_ret
      exact ⟨rfl, rfl⟩

set_option maxHeartbeats 4000000 in
set_option maxRecDepth 100000 in
theorem takes_call (i b o n cap : Nat) (r : Int) (w : World) (hi : i < n) (hc : w.cell? ⟨b, o + i * 3, none⟩ = some (.int .i64 r)) :
    Calls Tryd.prog 41 #[.slice (some ⟨b, o, none⟩) n cap, .agg #[.int .i64 11, .int .i64 i]] w fun e w' => e = .returned (.int .i64 r) ∧ w' = w.alloc (.cells #[.int .i64 11, .int .i64 i] 38) := by
  have c3 : (w.alloc (.cells #[.int .i64 11, .int .i64 i] 38)).cell? ⟨b, o + i * 3, none⟩ = some (.int .i64 r) := ((Kept.refl w).alloc _).cell hc
  clear hc
  go_enter Tryd.func41, Tryd.ntmps41
  go_wp2
  go_ret
  exact ⟨rfl, rfl⟩

set_option maxHeartbeats 4000000 in
set_option maxRecDepth 100000 in
theorem leaves_any (k : Nat) (a : Int) (w : World) (h : k < 17) :
    Calls Tryd.prog 42 #[.agg #[.int .i64 k, .int .i64 a]] w fun e w' => e = .returned (.int .i64 (lv k)) ∧ w' = w.alloc (.cells #[.int .i64 k, .int .i64 a] 38) := by
  by_cases h' : k = 11
  · subst h'
    go_enter Tryd.func42, Tryd.ntmps42
    go_wp2
    go_ret
    exact ⟨rfl, rfl⟩
  · rcases cases17 h h' with rfl | rfl | rfl | rfl | rfl | rfl | rfl | rfl | rfl | rfl | rfl | rfl | rfl | rfl | rfl | rfl
    all_goals
      as_aux_lemma =>
        go_enter Tryd.func42, Tryd.ntmps42
        go_wp2
        go_ret
        exact ⟨rfl, rfl⟩

end Go.Proofs.YtkepbeeioalmbabDoor
