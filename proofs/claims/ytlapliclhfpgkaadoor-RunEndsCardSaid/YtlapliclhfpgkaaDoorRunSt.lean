/-
  run.Run, step.Do, as the laws read them: the state that comes is read as a list.
-/
import Derived.Test.YtlapliclhfpgkaaDoorRB44
import Derived.Test.YtlapliclhfpgkaaDoorStX
namespace Go.Proofs.YtlapliclhfpgkaaDoor
open Go.RowKit

theorem rnS_small {p : List Fn} {s : St} {f : Int} : Small (rnS p s f).1 := by
  have hz : Small St.zero := by unfold Small St.zero; simp
  unfold rnS
  split
  · split
    · rename_i h; exact right_small (run_right _ h)
    · exact hz
  · exact hz
theorem stpS_small {p : List Fn} {s : St} : Small (stpS p s).1 := by
  unfold stpS
  split
  · rename_i h
    unfold oneS
    split
    · exact zero_small
    · exact step_small h (by omega)
  · exact zero_small
theorem own_st {base : Nat} {w : World} {V : Key → Value} {s : St} (h : Own base w V s) (hs : Small s) : ∃ oa n cap c oo m co, (.agg #[V .fibers, .int .i64 s.now, V .out] : Value) = .agg #[.slice oa n cap, .int .i64 c, .slice oo m co] ∧ StAt w (.agg #[.slice oa n cap, .int .i64 c, .slice oo m co]) s := by
  obtain ⟨xs, hr, _⟩ := h.piece .fibers trivial
  obtain ⟨o3, c3, E3, _⟩ := row_slice hr
  have hr4 := h.piece .out trivial
  obtain ⟨o4, c4, E4, _⟩ := row_slice hr4
  have := h.reads hs
  rw [E3, E4] at this
  exact ⟨_, _, _, _, _, _, _, by rw [E3, E4], this⟩
theorem runRun_st (p : List Fn) (s : St) (vp vs : Value) (fuel : Int) (w : World) (hp : ProgAt w vp p) (hs : StAt w vs s) (hkd : KindsAt w) :
    Calls Tryd.prog 13 #[vp, vs, .int .i64 fuel] w fun e w' => ∃ oa n cap c oo m co, e = .returned (.tuple #[.agg #[.slice oa n cap, .int .i64 c, .slice oo m co], .int .i64 (rnS p s fuel).2.1, .int .i64 (rnS p s fuel).2.2]) ∧ StAt w' (.agg #[.slice oa n cap, .int .i64 c, .slice oo m co]) (rnS p s fuel).1 ∧ Kept w w' := by
  refine (runRun_any p s vp vs fuel w hp hs hkd).mono ?_
  rintro e w' ⟨V, rfl, ho, hk⟩
  obtain ⟨oa, n, cap, c, oo, m, co, h1, h2⟩ := own_st ho rnS_small
  exact ⟨oa, n, cap, c, oo, m, co, by rw [h1], h2, hk⟩
theorem stepDo_st (p : List Fn) (s : St) (vp vs : Value) (w : World) (hp : ProgAt w vp p) (hs : StAt w vs s) (hkd : KindsAt w) :
    Calls Tryd.prog 18 #[vp, vs] w fun e w' => ∃ oa n cap c oo m co, e = .returned (.tuple #[.agg #[.slice oa n cap, .int .i64 c, .slice oo m co], .int .i64 (stpS p s).2]) ∧ StAt w' (.agg #[.slice oa n cap, .int .i64 c, .slice oo m co]) (stpS p s).1 ∧ Kept w w' := by
  refine (stepDo_any p s vp vs w hp hs hkd).mono ?_
  rintro e w' ⟨V, rfl, ho, hk⟩
  obtain ⟨oa, n, cap, c, oo, m, co, h1, h2⟩ := own_st ho stpS_small
  exact ⟨oa, n, cap, c, oo, m, co, by rw [h1], h2, hk⟩
end Go.Proofs.YtlapliclhfpgkaaDoor
