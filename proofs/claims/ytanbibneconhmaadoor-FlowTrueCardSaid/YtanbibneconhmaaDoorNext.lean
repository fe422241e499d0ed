/-
  The contract of the statements' own next; a plain fact: to an op to which one comes, but the first one, one comes from another.
-/
import Derived.Test.YtanbibneconhmaaDoorFlowH
namespace Go.Proofs.YtanbibneconhmaaDoor
open Go.RowKit

def nextI (x : Int × Int) (k : Nat) : List Int := (nexts x k).map (fun (j : Nat) => (j : Int))
def NextPost (x : Int × Int) (k : Nat) (w : World) (e : Ending) (w' : World) : Prop := ∃ v, e = .returned v ∧ IntsAt w' v (nextI x k) ∧ Kept w w'

set_option maxHeartbeats 1000000 in
theorem next_any (x : Int × Int) (k : Nat) (w : World) (hA : x.1 = 9 ∨ x.1 = 10 → 0 ≤ x.2) (hk : k ≤ 8796093022208) :
    Calls Tryd.prog 19 #[.agg #[.int .i64 x.1, .int .i64 x.2], .int .i64 k] w fun e w' => NextPost x k w e w' := by
  obtain ⟨kd, a⟩ := x
  simp only at hA
  by_cases h9 : kd = 9
  · subst h9
    obtain ⟨j, rfl⟩ := Int.eq_ofNat_of_zero_le (hA (.inl rfl))
    go_enter Tryd.func19, Tryd.ntmps19
    go_wp2
    go_ret
    exact ⟨_, rfl, ints_block (lays_new (by simp)) rfl (by simp [nextI, nexts]) rfl, ((Kept.refl _).alloc _).alloc _⟩
  · have g9 : (kd == 9) = false := beq_eq_false_iff_ne.2 h9
    have N9 := hide h9
    clear h9
    by_cases h10 : kd = 10
    · subst h10
      obtain ⟨j, rfl⟩ := Int.eq_ofNat_of_zero_le (hA (.inr rfl))
      go_enter Tryd.func19, Tryd.ntmps19
      go_wp2
      go_ret
      exact ⟨_, rfl, ints_block (lays_new (by simp)) rfl (by simp [nextI, nexts]) rfl, ((Kept.refl _).alloc _).alloc _⟩
    · have g10 : (kd == 10) = false := beq_eq_false_iff_ne.2 h10
      have N10 := hide h10
      clear h10
      by_cases h12 : kd = 12
      · subst h12
        go_enter Tryd.func19, Tryd.ntmps19
        go_wp2
        go_ret
        exact ⟨_, rfl, IntsAt.nil _, (Kept.refl _).alloc _⟩
      · have g12 : (kd == 12) = false := beq_eq_false_iff_ne.2 h12
        have N12 := hide h12
        clear h12
        go_enter Tryd.func19, Tryd.ntmps19
        go_wp2
        go_ret
        have e : nextI (kd, a) k = [(k : Int) + 1] := by
          unfold nextI nexts
          rw [if_neg (unhide N12), if_neg (unhide N9), if_neg (unhide N10)]
          rfl
        refine ⟨_, rfl, ?_, ((Kept.refl _).alloc _).alloc _⟩
        rw [e]
        exact ints_block (lays_new (by simp)) rfl (by simp) rfl

/-- To an op to which one comes, but the first one, one comes from another. -/
theorem pred_of {p : List Fn} {c : List (Int × Int)} {H : List Int} (hr : Right p c) (hc : Cons p c H) (hs : Sound p c H) {k : Nat} (hk : k < c.length) (h : 0 ≤ H.getD k 0) : k = 0 ∨ ∃ i x, i < c.length ∧ c[i]? = some x ∧ 0 ≤ H.getD i 0 ∧ k ∈ nexts x i := by
  have hR : Reach p c k (H.getD k 0) := by
    rcases hs k hk with a | ⟨_, a⟩
    · omega
    · exact a
  have := hR (fun k h => (k < c.length ∧ H.getD k 0 = h ∧ 0 ≤ h) ∧ (k = 0 ∨ ∃ i x, i < c.length ∧ c[i]? = some x ∧ 0 ≤ H.getD i 0 ∧ k ∈ nexts x i)) ⟨⟨hc.pos, hc.first, by omega⟩, .inl rfl⟩ ?_
  · exact this.2
  · rintro k h x m j ⟨⟨h1, h2, h3⟩, _⟩ hx hm hj
    obtain ⟨x', m', hx', hm', hn⟩ := hc.done k h1 (by omega)
    obtain rfl : x = x' := by rw [hx] at hx'; exact Option.some.inj hx'
    rw [h2] at hm'
    obtain rfl : m = m' := by rw [hm] at hm'; exact Option.some.inj hm'
    obtain ⟨h4, h5⟩ := hn j hj
    exact ⟨⟨h4, h5, (beh_nonneg hr (List.mem_of_getElem? hx) hm).1⟩, .inr ⟨k, x, h1, hx, by omega, hj⟩⟩
end Go.Proofs.YtanbibneconhmaaDoor
