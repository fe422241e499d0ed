/-
  Plain functions: what is wrong with a program (B1), who is called (B2).
-/
import Derived.Test.YtkepbeeioalmbabDoorProgS
import Derived.Test.YtkepbeeioalmbabDoorFlowN
namespace Go.Proofs.YtkepbeeioalmbabDoor

/-- The first error that is not 0, of those with the numbers k, k + 1 .. -/
def firstS (e : Nat → Int) : Nat → Nat → Int
  | _, 0 => 0
  | k, n + 1 => if e k = 0 then firstS e (k + 1) n else e k
theorem firstS_zero {e : Nat → Int} : ∀ {n k : Nat}, firstS e k n = 0 → ∀ i, k ≤ i → i < k + n → e i = 0
  | 0, _, _, i, h1, h2 => by omega
  | n + 1, k, h, i, h1, h2 => by
    unfold firstS at h
    split at h
    · rename_i h0
      rcases Nat.lt_or_eq_of_le h1 with h3 | rfl
      · exact firstS_zero h i h3 (by omega)
      · exact h0
    · rename_i h0; exact absurd h h0
theorem firstS_congr {e e' : Nat → Int} : ∀ (n k : Nat), (∀ i, k ≤ i → i < k + n → e i = e' i) → firstS e k n = firstS e' k n
  | 0, _, _ => rfl
  | n + 1, k, h => by
    unfold firstS
    rw [h k (Nat.le_refl k) (by omega), firstS_congr n (k + 1) (fun i h1 h2 => h i (by omega) (by omega))]
theorem firstS_step {e : Nat → Int} {k m : Nat} (h : k < m) : firstS e k (m - k) = if e k = 0 then firstS e (k + 1) (m - (k + 1)) else e k := by
  obtain ⟨n, hn⟩ : ∃ n, m - k = n + 1 := ⟨m - k - 1, by omega⟩
  rw [hn, show m - (k + 1) = n by omega]
  rfl

/-- B1. -/
def hgtE (p : List Fn) (k : Nat) : Int := match heightsS p (codeOf p k) with | some _ => 0 | none => 1
def progS (p : List Fn) : Int :=
  if 5 < p.length then 2 else if p.length = 0 then 5 else if (p.getD 0 Fn.zero).args ≠ 0 then 1
  else if firstS (fun k => chkS p k) 0 p.length = 0 then firstS (hgtE p) 0 p.length else firstS (fun k => chkS p k) 0 p.length

/-- B2's error. -/
def callE (p : List Fn) (f : Int) : Int := if progS p = 0 then (if ixB f p.length = true then 0 else 5) else progS p
def callB (p : List Fn) (f : Int) : List Bool := if callE p f = 0 then callsS p f.toNat else []

theorem progS_right {p : List Fn} (h : progS p = 0) : p.length ≤ 5 ∧ 0 < p.length ∧ ∀ k, k < p.length → chkS p k = 0 := by
  unfold progS at h
  split at h
  · cases h
  · split at h
    · cases h
    · split at h
      · cases h
      · split at h
        · rename_i h0
          exact ⟨by omega, by omega, fun k hk => firstS_zero h0 k (by omega) (by omega)⟩
        · rename_i h0; exact absurd h h0

theorem chkS_ops {p : List Fn} {k : Nat} (h : chkS p k = 0) : k < p.length ∧ (codeOf p k).length ≤ 24 ∧ opsS p (p.getD k Fn.zero) (codeOf p k) = 0 := by
  unfold chkS at h
  split at h
  · rename_i hk
    simp only [Int.toNat_natCast] at h
    split at h
    · cases h
    · split at h
      · exact ⟨by omega, by unfold codeOf; omega, h⟩
      · cases h
  · cases h

theorem right_named {p : List Fn} (h : ∀ k, k < p.length → chkS p k = 0) : Named p := by
  intro k j hk hj
  obtain ⟨_, _, h1⟩ := chkS_ops (h k hk)
  simp only [targets, List.mem_map, List.mem_filter] at hj
  obtain ⟨x, ⟨hx, hn⟩, rfl⟩ := hj
  have ho := opsS_all h1 x hx
  simp only [namesB, Bool.or_eq_true, decide_eq_true_eq] at hn
  unfold opS at ho
  have hop : opd x.1.toNat = 4 := by rcases hn with e | e <;> rw [e] <;> rfl
  rw [hop] at ho
  split at ho
  · split at ho
    · rename_i hm
      simp only [mayB, show (4 : Int) ≠ 0 by decide, show (4 : Int) ≠ 1 by decide, show (4 : Int) ≠ 2 by decide, show (4 : Int) ≠ 3 by decide, if_false, Bool.and_eq_true, ixB_iff] at hm
      omega
    · cases ho
  · cases ho
end Go.Proofs.YtkepbeeioalmbabDoor
