/-
  The contract of flow's come, where it does not go on.
-/
import Derived.Test.YtkepbeeioalmbabDoorFlowB
import Derived.Test.YtkepbeeioalmbabDoorFlowC
namespace Go.Proofs.YtkepbeeioalmbabDoor
open Go.RowKit Go.Shelf
attribute [local go_sem] Oper.semAt_some

set_option maxHeartbeats 1000000 in
theorem come_beyond (n : Nat) (p : List Fn) (g : Fn) (oa oc : Option Addr) (lp cp lc cc B : Nat) (H : List Int) (at_ : Nat) (h : Int) (w : World) (hH : HeightsAt w B H) (hlc : lc = g.code.length) (hat : ((lc : Int) ≤ at_)) :
    Calls Tryd.prog 34 #[.agg #[.slice oa lp cp, .slice oc lc cc, .slice (some ⟨B, 0, none⟩) lc lc], .int .i64 at_, .int .i64 h] w fun e w' => ComePost p g (n + 1) H at_ h B w e w' := by
  have HL := hide hlc
  have HH := hide hH
  clear hlc hH
  refine (callsIn_wide (n := 9)).1 (callsIn_of_wp_marks Tryd.func34 rfl trivial ?_ rfl)
  refine wpIn_wide.2 ?_
  simp only [Tryd.ntmps34, List.size_toArray, List.length_cons, List.length_nil, Nat.reduceAdd, Nat.reduceSub, Array.replicate_succ, Array.replicate_zero, List.push_toArray, List.append_toArray, List.nil_append, List.cons_append]
  go_wp2
  refine ⟨.bool false, by simp [results, Tryd.results34, go_sem], false, H, ?_, rfl, (unhide HH).kept (((Kept.refl _).alloc _).alloc _), .of (((Kept.refl _).alloc _).alloc _)⟩
  have := unhide HL
  unfold comeS
  rw [if_pos (by omega)]

set_option maxHeartbeats 1000000 in
theorem come_seen (n : Nat) (p : List Fn) (g : Fn) (oa oc : Option Addr) (lp cp lc cc B : Nat) (H : List Int) (at_ : Nat) (h : Int) (w : World) (hH : HeightsAt w B H) (hlc : lc = g.code.length) (hlh : H.length = g.code.length) (hat : ¬ ((lc : Int) ≤ at_)) (hs : H.getD at_ 0 ≠ -1) :
    Calls Tryd.prog 34 #[.agg #[.slice oa lp cp, .slice oc lc cc, .slice (some ⟨B, 0, none⟩) lc lc], .int .i64 at_, .int .i64 h] w fun e w' => ComePost p g (n + 1) H at_ h B w e w' := by
  have q := hH.cell (k := at_) (by omega)
  generalize hz : H.getD at_ 0 = z at *
  have d := (((Kept.refl w).alloc (.cells #[.slice oa lp cp, .slice oc lc cc, .slice (some ⟨B, 0, none⟩) lc lc] 59)).alloc (.cells #[.bool false] 4)).cell q
  have hs' : (z != -1) = true := by rw [bne_iff_ne]; exact hs
  have HS := hide hs
  have HL := hide hlc
  have HZ := hide hz
  have HH := hide hH
  clear hlc hH hz q hs hlh
  refine (callsIn_wide (n := 9)).1 (callsIn_of_wp_marks Tryd.func34 rfl trivial ?_ rfl)
  refine wpIn_wide.2 ?_
  simp only [Tryd.ntmps34, List.size_toArray, List.length_cons, List.length_nil, Nat.reduceAdd, Nat.reduceSub, Array.replicate_succ, Array.replicate_zero, List.push_toArray, List.append_toArray, List.nil_append, List.cons_append]
  go_wp2
  refine ⟨.bool (z == h), by simp [results, Tryd.results34, go_sem], z == h, H, ?_, rfl, (unhide HH).kept (((Kept.refl _).alloc _).alloc _), .of (((Kept.refl _).alloc _).alloc _)⟩
  have := unhide HL
  unfold comeS
  rw [if_neg (by omega), unhide HZ, if_neg (unhide HS)]
  rfl
end Go.Proofs.YtkepbeeioalmbabDoor
