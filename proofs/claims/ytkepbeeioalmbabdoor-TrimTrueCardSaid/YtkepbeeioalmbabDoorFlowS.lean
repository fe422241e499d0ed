/-
  Plain functions: heights, as the program goes through the ways (comeS), and as the reference does, round by round (heightsS).
-/
import Derived.Test.YtkepbeeioalmbabDoorPlain
namespace Go.Proofs.YtkepbeeioalmbabDoor

/-- The height behind an op; none, where it may not be. -/
def beh (p : List Fn) (x : Int × Int) (h : Int) : Option Int :=
  if (effS p x.1 x.2).2.2 = 0 ∧ (effS p x.1 x.2).1 ≤ h ∧ ¬ (x.1 = 12 ∧ 1 < h) ∧ h - (effS p x.1 x.2).1 + (effS p x.1 x.2).2.1 ≤ 8 then some (h - (effS p x.1 x.2).1 + (effS p x.1 x.2).2.1) else none

/-- The ops that may come next behind an op. -/
def nexts (x : Int × Int) (k : Nat) : List Nat :=
  if x.1 = 12 then [] else if x.1 = 9 then [x.2.toNat] else if x.1 = 10 then [x.2.toNat, k + 1] else [k + 1]

/-- One way behind the other, till one may not be gone. -/
def comesS (f : List Int → Nat → Int → Bool × List Int) : List Nat → List Int → Int → Bool × List Int
  | [], H, _ => (true, H)
  | j :: r, H, m => match f H j m with
    | (true, H') => comesS f r H' m
    | (false, H') => (false, H')

/-- To come to an op with a height. -/
def comeS (p : List Fn) (c : List (Int × Int)) : Nat → List Int → Nat → Int → Bool × List Int
  | 0, H, _, _ => (false, H)
  | n + 1, H, at_, h =>
    if c.length ≤ at_ then (false, H)
    else if H.getD at_ 0 = -1 then
      match beh p (c.getD at_ (0, 0)) h with
      | none => (false, H.set at_ h)
      | some m => comesS (comeS p c n) (nexts (c.getD at_ (0, 0)) at_) (H.set at_ h) m
    else (decide (H.getD at_ 0 = h), H)

theorem comesS_snoc (f : List Int → Nat → Int → Bool × List Int) : ∀ (l : List Nat) (j : Nat) (H : List Int) (m : Int), comesS f (l ++ [j]) H m = match comesS f l H m with
    | (true, H') => f H' j m
    | (false, H') => (false, H')
  | [], j, H, m => by
    simp only [List.nil_append, comesS]
    cases f H j m with
    | mk b H' => cases b <;> rfl
  | i :: l, j, H, m => by
    simp only [List.cons_append, comesS]
    cases f H i m with
    | mk b H' => cases b with
      | false => rfl
      | true => exact comesS_snoc f l j H' m
theorem comesS_prefix (f : List Int → Nat → Int → Bool × List Int) (l : List Nat) (H H' : List Int) (m : Int) (h : comesS f l H m = (false, H')) : ∀ r, comesS f (l ++ r) H m = (false, H') := by
  induction l generalizing H with
  | nil => simp [comesS] at h
  | cons i l ih =>
    intro r
    simp only [List.cons_append, comesS] at h ⊢
    cases hf : f H i m with
    | mk b H2 =>
      rw [hf] at h
      cases b with
      | false => exact h
      | true => exact ih H2 h r

/-- How many ops one has not come to. -/
def unv (H : List Int) : Nat := (H.filter (fun z => decide (z = -1))).length

theorem unv_set : ∀ (H : List Int) (k : Nat) (z : Int), H.getD k 0 = -1 → z ≠ -1 → unv (H.set k z) + 1 = unv H
  | [], k, z, h, _ => by simp at h
  | y :: H, 0, z, h, hz => by
    simp at h
    subst h
    simp [unv, hz]
  | y :: H, k + 1, z, h, hz => by
    have ih := unv_set H k z (by simpa using h) hz
    simp only [unv, List.set_cons_succ, List.filter_cons] at ih ⊢
    split
    · simp only [List.length_cons]; omega
    · exact ih
end Go.Proofs.YtkepbeeioalmbabDoor
