/-
  Contracts of the reference's takes and leaves at a right op; plain facts on rounds that fail.
-/
import Derived.Test.YtkepbeeioalmbabDoorFlowG
import Derived.Test.YtkepbeeioalmbabDoorOpC
namespace Go.Proofs.YtkepbeeioalmbabDoor
open Go.RowKit

theorem takes_right (p : List Fn) (g : Fn) (v : Value) (x : Int × Int) (ta lb : Int) (u : World) (hp : ProgAt u v p) (hop : opS p g x = 0) (he : effS p x.1 x.2 = (ta, lb, 0)) :
    Calls Tryd.prog 41 #[v, .agg #[.int .i64 x.1, .int .i64 x.2]] u fun e u' => e = .returned (.int .i64 ta) ∧ u' = u.alloc (.cells #[.int .i64 x.1, .int .i64 x.2] 38) := by
  obtain ⟨kd, a⟩ := x
  obtain ⟨h1, h2, _⟩ := opS_kind hop
  simp only at h1 h2 he ⊢
  obtain ⟨k, rfl⟩ := Int.eq_ofNat_of_zero_le h1
  by_cases h11 : k = 11
  · subst h11
    obtain ⟨a0, a1, _, a3⟩ := effS_call hop rfl
    simp only at a0 a1 a3
    obtain ⟨j, rfl⟩ := Int.eq_ofNat_of_zero_le a0
    rw [show (((11 : Nat) : Int)) = 11 from rfl] at he a3
    rw [he] at a3
    obtain ⟨oa, cap, rfl, _, hi⟩ := hp
    obtain ⟨b, o, cv, rfl, c0, _⟩ := hi j _ (getD_of_lt p j Fn.zero (by omega))
    have hta : ta = (p.getD j Fn.zero).args := by
      have := congrArg Prod.fst a3
      simpa using this
    rw [hta]
    exact takes_call j b o p.length cap _ u (by omega) c0
  · have hta : ta = tk k := by
      unfold effS at he
      rw [if_pos ⟨by omega, by omega⟩, if_neg (by omega)] at he
      have := congrArg Prod.fst he
      simpa using this.symm
    rw [hta]
    exact takes_plain k a v u (by omega) h11
theorem leaves_right (p : List Fn) (g : Fn) (x : Int × Int) (ta lb : Int) (u : World) (hop : opS p g x = 0) (he : effS p x.1 x.2 = (ta, lb, 0)) :
    Calls Tryd.prog 42 #[.agg #[.int .i64 x.1, .int .i64 x.2]] u fun e u' => e = .returned (.int .i64 lb) ∧ u' = u.alloc (.cells #[.int .i64 x.1, .int .i64 x.2] 38) := by
  obtain ⟨kd, a⟩ := x
  obtain ⟨h1, h2, _⟩ := opS_kind hop
  simp only at h1 h2 he ⊢
  obtain ⟨k, rfl⟩ := Int.eq_ofNat_of_zero_le h1
  have hlb : lb = lv k := by
    by_cases h11 : k = 11
    · subst h11
      obtain ⟨_, _, _, a3⟩ := effS_call hop rfl
      simp only at a3
      rw [show (((11 : Nat) : Int)) = 11 from rfl] at he a3
      rw [he] at a3
      have := congrArg (fun t => t.2.1) a3
      exact this
    · unfold effS at he
      rw [if_pos ⟨by omega, by omega⟩, if_neg (by omega)] at he
      have := congrArg (fun t => t.2.1) he
      simpa using this.symm
  rw [hlb]
  exact leaves_any k a u (by omega)

theorem roundS_none {p : List Fn} {c : List (Int × Int)} {H : List Int} {k : Nat} (h : roundS p c k H = none) : ∀ n, k ≤ n → roundS p c n H = none := by
  intro n hn
  induction n with
  | zero =>
    obtain rfl : k = 0 := by omega
    exact h
  | succ n ih =>
    by_cases e : k = n + 1
    · rw [← e]; exact h
    · simp only [roundS]; rw [ih (by omega)]; rfl
theorem roundsS_none {p : List Fn} {c : List (Int × Int)} {H : List Int} {k : Nat} (h : roundsS p c k H = none) : ∀ n, k ≤ n → roundsS p c n H = none := by
  intro n hn
  induction n with
  | zero =>
    obtain rfl : k = 0 := by omega
    exact h
  | succ n ih =>
    by_cases e : k = n + 1
    · rw [← e]; exact h
    · simp only [roundsS]; rw [ih (by omega)]; rfl
/-- Where an op may not be, there are no heights. -/
theorem heights_fail {p : List Fn} {c : List (Int × Int)} {r k : Nat} {Hr Hk : List Int} (h0 : c.length ≠ 0) (hr : r ≤ c.length) (hk : k < c.length) (h1 : roundsS p c r ((start c).set 0 0) = some Hr) (h2 : roundS p c k Hr = some Hk) (h3 : stepS p c Hk k = none) : heightsS p c = none := by
  unfold heightsS
  rw [if_neg h0]
  refine roundsS_none (k := r + 1) ?_ _ (by omega)
  simp only [roundsS, h1, Option.bind_some]
  refine roundS_none (k := k + 1) ?_ _ (by omega)
  simp only [roundS, h2, Option.bind_some]
  exact h3
end Go.Proofs.YtkepbeeioalmbabDoor
