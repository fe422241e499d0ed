/-
  The contract of the statements' own next; a plain fact: to an op to which one comes, but the first one, one comes from another.
-/
import Derived.Test.YtkepbeeioalmbaaDoorFlowH
import Derived.Test.YtkepbeeioalmbaaDoorNextA
namespace Go.Proofs.YtkepbeeioalmbaaDoor
open Go.RowKit

/-- To an op to which one comes, but the first one, one comes from another. -/
theorem pred_of {p : List Fn} {c : List (Int × Int)} {H : List Int} (hr : Right p c) (hc : Cons p c H) (hs : Sound p c H) {k : Nat} (hk : k < c.length) (h : 0 ≤ H.getD k 0) : k = 0 ∨ ∃ i x, i < c.length ∧ c[i]? = some x ∧ 0 ≤ H.getD i 0 ∧ k ∈ nexts x i := by
  have hR : Reach p c k (H.getD k 0) := by
    rcases hs k hk with a | ⟨_, a⟩
    · omega
    · exact a
  have := hR (fun k h => (k < c.length ∧ H.getD k 0 = h ∧ 0 ≤ h) ∧ (k = 0 ∨ ∃ i x, i < c.length ∧ c[i]? = some x ∧ 0 ≤ H.getD i 0 ∧ k ∈ nexts x i)) ⟨⟨hc.pos, hc.first, by omega⟩, .inl rfl⟩ ?_
  · exact this.2
  · rintro k h x m j ⟨⟨h1, h2, h3⟩, _⟩ hx hm hj
    obtain ⟨x', m', hx', hm', hn⟩ := hc.done k h1 (by omega)
    obtain rfl : x = x' := by rw [hx] at hx'; exact Option.some.inj hx'
    rw [h2] at hm'
    obtain rfl : m = m' := by rw [hm] at hm'; exact Option.some.inj hm'
    obtain ⟨h4, h5⟩ := hn j hj
    exact ⟨⟨h4, h5, (beh_nonneg hr (List.mem_of_getElem? hx) hm).1⟩, .inr ⟨k, x, h1, hx, by omega, hj⟩⟩
end Go.Proofs.YtkepbeeioalmbaaDoor
