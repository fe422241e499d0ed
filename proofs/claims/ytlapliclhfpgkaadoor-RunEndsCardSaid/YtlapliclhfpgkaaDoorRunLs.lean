/-
  The contracts of what the laws on running call, as their walks take them.
-/
import Derived.Test.YtlapliclhfpgkaaDoorRB44
import Derived.Test.YtlapliclhfpgkaaDoorRunSt
import Derived.Test.YtlapliclhfpgkaaDoorRunP
import Derived.Test.YtlapliclhfpgkaaDoorRB45
namespace Go.Proofs.YtlapliclhfpgkaaDoor
open Go.RowKit

theorem all_small {p : List Fn} {f : Int} : (allS p f).1.length ≤ 1000 := by
  unfold allS
  split
  · split
    · exact rnS_small.2.1
    · simp
  · simp
theorem runAll_gives (p : List Fn) (vp : Value) (fuel : Int) (w : World) (hp : ProgAt w vp p) (hkd : KindsAt w) : GivesInts 10 #[vp, .int .i64 fuel] w (allS p fuel).1 [.int .i64 (allS p fuel).2.1, .int .i64 (allS p fuel).2.2] := by
  refine (runAll_any p vp fuel w hp hkd).mono ?_
  rintro e w' ⟨v, rfl, hr, hk⟩
  obtain ⟨oa, cap, rfl, _⟩ := row_slice hr
  exact ⟨oa, _, cap, rfl, rfl, row_cap hr, ints_row hr all_small, hk⟩
theorem runRun_gives (p : List Fn) (s : St) (vp vs : Value) (fuel : Int) (w : World) (hp : ProgAt w vp p) (hs : StAt w vs s) (hkd : KindsAt w) : GivesSt 13 #[vp, vs, .int .i64 fuel] w (rnS p s fuel).1 [.int .i64 (rnS p s fuel).2.1, .int .i64 (rnS p s fuel).2.2] := runRun_st p s vp vs fuel w hp hs hkd
theorem stepDo_gives (p : List Fn) (s : St) (vp vs : Value) (w : World) (hp : ProgAt w vp p) (hs : StAt w vs s) (hkd : KindsAt w) : GivesSt 18 #[vp, vs] w (stpS p s).1 [.int .i64 (stpS p s).2] := stepDo_st p s vp vs w hp hs hkd
theorem choose_is (c : Int) (n : Nat) (hw : (Lit.int .i64 c).wf = true) (hn : 0 < n) (hm : n ≤ 8796093022208) (u : World) : Calls Tryd.prog 11 #[.int .i64 c, .int .i64 n] u fun e w' => e = .returned (.int .i64 (chooseS c n)) ∧ w' = u := by
  refine (choose_any c n u hw hn hm).mono ?_
  rintro e w' ⟨rfl, h⟩
  exact ⟨rfl, h.symm⟩
theorem sameInts_is (l : List Int) (u : World) (v1 v2 : Value) (h1 : IntsW u v1 l) (h2 : IntsW u v2 l) : Calls Tryd.prog 12 #[v1, v2] u fun e w' => e = .returned (.bool true) ∧ Kept u w' := by
  refine (sameInts_w l l v1 v2 u h1 h2).mono ?_
  rintro e w' ⟨rfl, h⟩
  exact ⟨by rw [decide_eq_true rfl], h⟩
theorem run_in {p : List Fn} {s : St} {m : Nat} (hm : m ≤ 500) (h0 : stErrS p s = 0) : rnS p s m = runS p m s := by
  unfold rnS
  rw [if_pos (inB_true (by omega) (by omega)), if_pos h0]
  rfl
theorem all_in {p : List Fn} {m : Nat} (hm : m ≤ 500) (h0 : progS p = 0) : allS p m = ((runS p m (beginS p)).1.out, (runS p m (beginS p)).2) := by
  unfold allS
  rw [if_pos (inB_true (by omega) (by omega)), if_pos h0, run_in hm (begin_right h0)]
theorem right_over {p : List Fn} {s : St} (h : stErrS p s = 0) (hn : s.now < 0) : s.now = -1 := by
  have := (limS_zero (right_parts h).2.1).2.2.2.2.1
  omega
end Go.Proofs.YtlapliclhfpgkaaDoor
