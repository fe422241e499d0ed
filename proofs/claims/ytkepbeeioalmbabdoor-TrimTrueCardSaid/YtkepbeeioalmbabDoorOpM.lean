/-
  Plain facts on right functions: each op of one has an effect.
-/
import Derived.Test.YtkepbeeioalmbabDoorPlain
namespace Go.Proofs.YtkepbeeioalmbabDoor


theorem opsS_all {p : List Fn} {g : Fn} : ∀ {c : List (Int × Int)}, opsS p g c = 0 → ∀ x, x ∈ c → opS p g x = 0
  | [], _, x, hx => by cases hx
  | y :: c, h, x, hx => by
    unfold opsS at h
    by_cases hy : opS p g y = 0
    · rw [if_pos hy] at h
      rcases List.mem_cons.1 hx with rfl | hx
      · exact hy
      · exact opsS_all h x hx
    · rw [if_neg hy] at h
      exact absurd h hy

theorem opS_kind {p : List Fn} {g : Fn} {x : Int × Int} (h : opS p g x = 0) : 0 ≤ x.1 ∧ x.1 < 17 ∧ mayB p g (opd x.1.toNat) x.2 = true := by
  unfold opS at h
  by_cases hk : 0 ≤ x.1 ∧ x.1 < 17
  · rw [if_pos hk] at h
    by_cases hm : mayB p g (opd x.1.toNat) x.2 = true
    · exact ⟨hk.1, hk.2, hm⟩
    · rw [if_neg hm] at h; omega
  · rw [if_neg hk] at h; omega

theorem mayB4 {p : List Fn} {g : Fn} {a : Int} (h : mayB p g 4 a = true) : 0 ≤ a ∧ a < p.length ∧ roomB (p.getD a.toNat Fn.zero).args (p.getD a.toNat Fn.zero).locals = true := by
  simp only [mayB] at h
  rw [if_neg (by decide), if_neg (by decide), if_neg (by decide), if_neg (by decide), Bool.and_eq_true, ixB_iff] at h
  exact ⟨h.1.1, h.1.2, h.2⟩

theorem tk_lv (k : Nat) (h : k < 17) : 0 ≤ tk k ∧ tk k ≤ 2 ∧ 0 ≤ lv k ∧ lv k ≤ 1 := by
  have : ∀ k : Fin 17, 0 ≤ tk k ∧ tk k ≤ 2 ∧ 0 ≤ lv k ∧ lv k ≤ 1 := by decide
  exact this ⟨k, h⟩

theorem effS_call {p : List Fn} {g : Fn} {x : Int × Int} (h : opS p g x = 0) (hk : x.1 = 11) : 0 ≤ x.2 ∧ x.2 < p.length ∧ 0 ≤ (p.getD x.2.toNat Fn.zero).args ∧ effS p x.1 x.2 = ((p.getD x.2.toNat Fn.zero).args, 1, 0) := by
  obtain ⟨_, _, hm⟩ := opS_kind h
  rw [hk] at hm
  obtain ⟨h1, h2, h3⟩ := mayB4 (show mayB p g 4 x.2 = true from hm)
  rw [roomB_iff] at h3
  refine ⟨h1, h2, h3.1, ?_⟩
  unfold effS
  rw [if_pos ⟨by omega, by omega⟩, if_pos hk, if_pos ⟨h1, h2⟩]

theorem effS_plain {p : List Fn} {g : Fn} {x : Int × Int} (h : opS p g x = 0) (hk : x.1 ≠ 11) : ∃ ta lb, effS p x.1 x.2 = (ta, lb, 0) ∧ 0 ≤ ta ∧ ta ≤ 2 ∧ 0 ≤ lb ∧ lb ≤ 1 := by
  obtain ⟨h1, h2, _⟩ := opS_kind h
  obtain ⟨a, b, c, d⟩ := tk_lv x.1.toNat (by omega)
  refine ⟨_, _, ?_, a, b, c, d⟩
  unfold effS
  rw [if_pos ⟨h1, h2⟩, if_neg hk]

theorem chkS_zero {p : List Fn} {f : Int} (h : chkS p f = 0) : ∃ i : Nat, f = i ∧ i < p.length ∧ (p.getD i Fn.zero).code.length ≤ 24 ∧ roomB (p.getD i Fn.zero).args (p.getD i Fn.zero).locals = true ∧ opsS p (p.getD i Fn.zero) (p.getD i Fn.zero).code = 0 := by
  unfold chkS at h
  by_cases hf : 0 ≤ f ∧ f < p.length
  · rw [if_pos hf] at h
    obtain ⟨i, rfl⟩ := Int.eq_ofNat_of_zero_le hf.1
    rw [Int.toNat_natCast] at h
    refine ⟨i, rfl, by omega, ?_⟩
    generalize p.getD i Fn.zero = g at *
    by_cases hm : 24 < g.code.length
    · simp only [if_pos hm] at h; omega
    · simp only [if_neg hm] at h
      cases hr : roomB g.args g.locals with
      | false => rw [hr, if_neg (by decide)] at h; omega
      | true => rw [hr, if_pos rfl] at h; exact ⟨by omega, rfl, h⟩
  · rw [if_neg hf] at h; omega
end Go.Proofs.YtkepbeeioalmbabDoor
