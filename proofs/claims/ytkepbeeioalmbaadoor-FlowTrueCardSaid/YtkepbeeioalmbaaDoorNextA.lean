/-
  The contract of the statements' own next.
-/
import Derived.Test.YtkepbeeioalmbaaDoorFlowH0
namespace Go.Proofs.YtkepbeeioalmbaaDoor
open Go.RowKit

def nextI (x : Int × Int) (k : Nat) : List Int := (nexts x k).map (fun (j : Nat) => (j : Int))
def WayPost (x : Int × Int) (k : Nat) (w : World) (e : Ending) (w' : World) : Prop := ∃ v, e = .returned v ∧ IntsAt w' v (nextI x k) ∧ Kept w w'

set_option maxHeartbeats 1000000 in
theorem next_any (x : Int × Int) (k : Nat) (w : World) (hA : x.1 = 9 ∨ x.1 = 10 → 0 ≤ x.2) (hk : k ≤ 8796093022208) :
    Calls Tryd.prog 19 #[.agg #[.int .i64 x.1, .int .i64 x.2], .int .i64 k] w fun e w' => WayPost x k w e w' := by
  obtain ⟨kd, a⟩ := x
  simp only at hA
  by_cases h9 : kd = 9
  · subst h9
    obtain ⟨j, rfl⟩ := Int.eq_ofNat_of_zero_le (hA (.inl rfl))
    go_enter Tryd.func19, Tryd.ntmps19
    go_wp2
    go_ret
    exact ⟨_, rfl, ints_block (lays_new (by simp)) rfl (by simp [nextI, nexts]) rfl, ((Kept.refl _).alloc _).alloc _⟩
  · have g9 : (kd == 9) = false := beq_eq_false_iff_ne.2 h9
    have N9 := hide h9
    clear h9
    by_cases h10 : kd = 10
    · subst h10
      obtain ⟨j, rfl⟩ := Int.eq_ofNat_of_zero_le (hA (.inr rfl))
      go_enter Tryd.func19, Tryd.ntmps19
      go_wp2
      go_ret
      exact ⟨_, rfl, ints_block (lays_new (by simp)) rfl (by simp [nextI, nexts]) rfl, ((Kept.refl _).alloc _).alloc _⟩
    · have g10 : (kd == 10) = false := beq_eq_false_iff_ne.2 h10
      have N10 := hide h10
      clear h10
      by_cases h12 : kd = 12
      · subst h12
        go_enter Tryd.func19, Tryd.ntmps19
        go_wp2
        go_ret
        exact ⟨_, rfl, IntsAt.nil _, (Kept.refl _).alloc _⟩
      · have g12 : (kd == 12) = false := beq_eq_false_iff_ne.2 h12
        have N12 := hide h12
        clear h12
        go_enter Tryd.func19, Tryd.ntmps19
        go_wp2
        go_ret
        have e : nextI (kd, a) k = [(k : Int) + 1] := by
          unfold nextI nexts
          rw [if_neg (unhide N12), if_neg (unhide N9), if_neg (unhide N10)]
          rfl
        refine ⟨_, rfl, ?_, ((Kept.refl _).alloc _).alloc _⟩
        rw [e]
        exact ints_block (lays_new (by simp)) rfl (by simp) rfl
end Go.Proofs.YtkepbeeioalmbaaDoor
