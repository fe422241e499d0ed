/-
  The contract of the statements' own choose.
-/
import Derived.Test.YtkepbeeioalmbabDoorChecked
import Derived.Test.YtkepbeeioalmbabDoorHide
namespace Go.Proofs.YtkepbeeioalmbabDoor
open Go.RowKit

/-- Which of n things a raw number speaks of. -/
def chooseS (c : Int) (n : Nat) : Nat := ((if c < 0 then -(c + 1) else c) % n).toNat
theorem chooseS_lt (c : Int) {n : Nat} (h : 0 < n) : chooseS c n < n := by
  unfold chooseS
  have h1 := Int.emod_lt_of_pos (if c < 0 then -(c + 1) else c) (show (0 : Int) < n by omega)
  have h2 := Int.emod_nonneg (if c < 0 then -(c + 1) else c) (show (n : Int) ≠ 0 by omega)
  omega
theorem chooseS_eq (c : Int) {n : Nat} (h : 0 < n) : ((chooseS c n : Nat) : Int) = (if c < 0 then -(c + 1) else c) % n := by
  unfold chooseS
  have h2 := Int.emod_nonneg (if c < 0 then -(c + 1) else c) (show (n : Int) ≠ 0 by omega)
  omega

theorem ret_int {k : IntKind} {a b : Int} (h : a = b) : Ending.returned (.int k a) = .returned (.int k b) := by rw [h]

set_option maxHeartbeats 400000 in
theorem choose_any (c : Int) (n : Nat) (w : World) (hw : (Lit.int .i64 c).wf = true) (hn : 0 < n) (hm : n ≤ 8796093022208) :
    Calls Tryd.prog 14 #[.int .i64 c, .int .i64 n] w fun e w' => e = .returned (.int .i64 (chooseS c n)) ∧ w = w' := by
  have hb : -9223372036854775808 ≤ c ∧ c ≤ 9223372036854775807 := by
    simp only [Lit.wf, Bool.and_eq_true, decide_eq_true_eq] at hw
    exact hw
  rw [chooseS_eq c hn]
  have hz : ((n : Int) == 0) = false := beq_eq_false_iff_ne.2 (by omega)
  obtain ⟨hb1, hb2⟩ := hb
  by_cases h : c < 0
  · rw [if_pos h]
    go_enter Tryd.func14, Tryd.ntmps14
    go_wp2
    go_ret
    exact ⟨ret_int (by rw [← Int.neg_tmod]; exact Int.tmod_eq_emod_of_nonneg (by omega)), rfl⟩
  · rw [if_neg h]
    go_enter Tryd.func14, Tryd.ntmps14
    go_wp2
    go_ret
    exact ⟨ret_int (by rfl), rfl⟩
end Go.Proofs.YtkepbeeioalmbabDoor
