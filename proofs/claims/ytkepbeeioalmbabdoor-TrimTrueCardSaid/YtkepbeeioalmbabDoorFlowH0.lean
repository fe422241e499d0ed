/-
  The contract of flow.Heights at told programs; literals in blocks of their own.
-/
import Derived.Test.YtkepbeeioalmbabDoorFlowG
namespace Go.Proofs.YtkepbeeioalmbabDoor
open Go.RowKit

theorem heights_is (p : List Fn) (v : Value) (f : Int) (l : List Int) (r : Int) (w : World) (hp : ProgAt w v p) (hk : KindsAt w) (h : hgtS p f = (l, r)) :
    Calls Tryd.prog 22 #[v, .int .i64 f] w fun e w' => ∃ u, e = .returned (.tuple #[u, .int .i64 r]) ∧ IntsAt w' u l ∧ Kept w w' := by
  refine (heights_any p v f w hp hk).mono ?_
  rintro e w' ⟨u, h1, h2, h3⟩
  rw [h] at h1 h2
  exact ⟨u, h1, h2, h3⟩

/-- A program of one function, as the statements write it. -/
theorem one_prog {w : World} {b0 b n : Nat} {c : List (Int × Int)} {A : Array Value} (h0 : w.heap[b0]? = some (.cells A 38)) (hA : A = (flatOps c).toArray) (hl : c.length ≤ 8796093022208) (hn : n = c.length)
    (h : w.heap[b]? = some (.cells #[.int .i64 0, .int .i64 0, .slice (some ⟨b0, 0, none⟩) n n] 36)) : ProgAt w (.slice (some ⟨b, 0, none⟩) 1 1) [⟨0, 0, c⟩] := by
  refine progAt_block h [(⟨0, 0, c⟩, .slice (some ⟨b0, 0, none⟩) n n)] rfl (by simp) ?_ 1 1 rfl _ rfl
  intro x hx
  simp only [List.mem_cons, List.not_mem_nil, or_false] at hx
  subst hx
  exact codeAt_block h0 c hA hl n n hn

theorem ints_block {w : World} {b n : Nat} {l : List Int} {A : Array Value} (h : w.heap[b]? = some (.cells A 3)) (hA : A = (l.map fun z => Value.int .i64 z).toArray) (hl : l.length ≤ 8796093022208) (hn : n = l.length) : IntsAt w (.slice (some ⟨b, 0, none⟩) n n) l := by
  subst hA hn
  refine ⟨_, _, rfl, hl, fun i z hz => ⟨b, 0, rfl, ?_⟩⟩
  rw [cell_lays h, Nat.zero_add]
  simp [hz]

end Go.Proofs.YtkepbeeioalmbabDoor
