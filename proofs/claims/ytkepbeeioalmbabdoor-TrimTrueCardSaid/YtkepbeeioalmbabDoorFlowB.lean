/-
  The iterator that flow.following hands back: it gives the ops that may come next, one behind the other.
-/
import Derived.RangeFuncNested
import Derived.RangeFuncBound
import Derived.RangeFuncCalls
import Derived.RangeFuncLeaves
import Derived.Shelf.Abstract
import Derived.Shelf.RegionOpen
import Derived.WalkKit
import Derived.OwnWalkIn
import Derived.TacticsInMore
import Derived.LoopNIn
import Derived.LoopIn
import Derived.Test.YtkepbeeioalmbabDoorFlowA
namespace Go.Proofs.YtkepbeeioalmbabDoor
open Go.RowKit Go.Shelf
attribute [local go_sem] Oper.semAt_some

/-- What a round must keep: the cell in which the place of the op lies. -/
def KpAt (Ba : Nat) (W W' : World) : Prop := W'.cell? ⟨Ba, 0, none⟩ = W.cell? ⟨Ba, 0, none⟩

/-- All have come; a part has come. -/
def SAll (l xs : List Nat) : Prop := xs = l
def SPre (l pre : List Nat) : Prop := ∃ r, pre ++ r = l

set_option maxHeartbeats 1000000 in
theorem following_stops (n Bx Ba : Nat) (kd a : Int) (at_ : Nat) (w0 : World) (hn : 1 ≤ n) (c0 : w0.cell? ⟨Bx, 0, none⟩ = some (.int .i64 kd)) (c1 : w0.cell? ⟨Bx, 1, none⟩ = some (.int .i64 a)) (c2 : w0.cell? ⟨Ba, 0, none⟩ = some (.int .i64 at_))
    (hA : kd = 9 ∨ kd = 10 → 0 ≤ a) (hat : at_ ≤ 8796093022208) :
    SeqStopsK Fence.wide n Tryd.prog 52 #[.pointer (some ⟨Bx, 0, none⟩), .pointer (some ⟨Ba, 0, none⟩)] (fun j : Nat => #[Value.int .i64 j]) (KpAt Ba) (SAll (nexts (kd, a) at_)) (SPre (nexts (kd, a) at_)) 2 w0 := fun l J Jx W hW _ _ hY h0 => by
  have hK : Kept w0 W := hW
  have d0 := hK.cell c0
  have d1 := hK.cell c1
  have d2 := hK.cell c2
  clear hK hW c0 c1 c2
  obtain ⟨L, hL⟩ : ∃ L, nexts (kd, a) at_ = L := ⟨_, rfl⟩
  have HL := hide hL
  rw [hL]
  clear hL
  refine callsIn_of_wp Tryd.func52 rfl trivial ?_ rfl
  simp only [Tryd.ntmps52, List.size_toArray, List.length_cons, List.length_nil, Nat.reduceAdd, Nat.reduceSub, Array.replicate_succ, Array.replicate_zero, List.push_toArray, List.append_toArray, List.nil_append, List.cons_append]
  by_cases h12 : kd = 12
  · subst h12
    gi_wp2
    go_end0
    refine ⟨⟨_, rfl⟩, .inl ⟨[], ?_, h0⟩⟩
    rw [← unhide HL]; rfl
  · have g12 : (kd == 12) = false := beq_eq_false_iff_ne.2 h12
    have N12 := hide h12
    clear h12
    by_cases h9 : kd = 9
    · subst h9
      obtain ⟨j, rfl⟩ := Int.eq_ofNat_of_zero_le (hA (.inl rfl))
      obtain ⟨f1, t1, a1, b1, hy1, hR1⟩ := hY [] j W h0 (by simp)
      dsimp only at hy1
      gi_wp2
      refine hR1.mono ?_
      rintro e W1 (⟨rfl, hJ1, _⟩ | ⟨rfl, hx1⟩)
      · gi_wp2
        go_end0
        refine ⟨⟨_, rfl⟩, .inl ⟨[j], ?_, hJ1⟩⟩
        rw [← unhide HL]; rfl
      · gi_wp2
        go_end0
        refine ⟨⟨_, rfl⟩, .inr ⟨[j], ⟨[], ?_⟩, hx1⟩⟩
        rw [← unhide HL]; rfl
    · have g9 : (kd == 9) = false := beq_eq_false_iff_ne.2 h9
      have N9 := hide h9
      clear h9
      by_cases h10 : kd = 10
      · subst h10
        obtain ⟨j, rfl⟩ := Int.eq_ofNat_of_zero_le (hA (.inr rfl))
        obtain ⟨f1, t1, a1, b1, hy1, hR1⟩ := hY [] j W h0 (by simp)
        dsimp only at hy1
        gi_wp2
        refine hR1.mono ?_
        rintro e W1 (⟨rfl, hJ1, hk1⟩ | ⟨rfl, hx1⟩)
        · have d3 : W1.cell? ⟨Ba, 0, none⟩ = some (.int .i64 at_) := Eq.trans hk1 d2
          obtain ⟨f2, t2, a2, b2, hy2, hR2⟩ := hY [j] (at_ + 1) W1 hJ1 (by simp)
          rw [show ((at_ + 1 : Nat) : Int) = (at_ : Int) + 1 from by omega] at hy2
          clear hk1
          gi_wp2
          refine hR2.mono ?_
          rintro e W2 (⟨rfl, hJ2, _⟩ | ⟨rfl, hx2⟩)
          · gi_wp2
            go_end0
            refine ⟨⟨_, rfl⟩, .inl ⟨[j, at_ + 1], ?_, hJ2⟩⟩
            rw [← unhide HL]; rfl
          · gi_wp2
            go_end0
            refine ⟨⟨_, rfl⟩, .inr ⟨[j, at_ + 1], ⟨[], ?_⟩, hx2⟩⟩
            rw [← unhide HL]; rfl
        · gi_wp2
          go_end0
          refine ⟨⟨_, rfl⟩, .inr ⟨[j], ⟨[at_ + 1], ?_⟩, hx1⟩⟩
          rw [← unhide HL]; rfl
      · have g10 : (kd == 10) = false := beq_eq_false_iff_ne.2 h10
        have hl : nexts (kd, a) at_ = [at_ + 1] := by
          unfold nexts
          rw [if_neg (unhide N12), if_neg (unhide N9), if_neg h10]
        have HM := hide hl
        clear h10 hl
        obtain ⟨f1, t1, a1, b1, hy1, hR1⟩ := hY [] (at_ + 1) W h0 (by simp)
        dsimp only at hy1
        rw [show ((at_ + 1 : Nat) : Int) = (at_ : Int) + 1 from by omega] at hy1
        gi_wp2
        refine hR1.mono ?_
        rintro e W1 (⟨rfl, hJ1, _⟩ | ⟨rfl, hx1⟩)
        · gi_wp2
          go_end0
          refine ⟨⟨_, rfl⟩, .inl ⟨[at_ + 1], ?_, hJ1⟩⟩
          rw [← unhide HL, unhide HM]; rfl
        · gi_wp2
          go_end0
          refine ⟨⟨_, rfl⟩, .inr ⟨[at_ + 1], ⟨[], ?_⟩, hx1⟩⟩
          rw [← unhide HL, unhide HM]; rfl
end Go.Proofs.YtkepbeeioalmbabDoor
