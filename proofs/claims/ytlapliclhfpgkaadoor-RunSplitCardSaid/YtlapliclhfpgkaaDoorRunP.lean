/-
  Of runs, plain: in two goes; where they stop; what is put out stays (H1, H2).
-/
import Derived.Test.YtlapliclhfpgkaaDoorRB44
namespace Go.Proofs.YtlapliclhfpgkaaDoor

theorem run_le (p : List Fn) : ∀ (k : Nat) (s : St), (runS p k s).2.1 ≤ k
  | 0, s => Nat.le_refl _
  | k + 1, s => by
    by_cases hn : s.now < 0
    · rw [runS_stop p _ s (.inr hn)]; exact Nat.zero_le _
    · by_cases he : (doneS p s).2 = 0
      · rw [runS_go p k s hn he]; exact Nat.succ_le_succ (run_le p k _)
      · rw [runS_err p k s hn he]; exact Nat.zero_le _
theorem run_fine (p : List Fn) : ∀ (k : Nat) (s : St), (runS p k s).2.2 = 0 → (runS p k s).2.1 = k ∨ (runS p k s).1.now < 0
  | 0, s, _ => .inl rfl
  | k + 1, s, h => by
    by_cases hn : s.now < 0
    · rw [runS_stop p _ s (.inr hn)]; exact .inr hn
    · by_cases he : (doneS p s).2 = 0
      · rw [runS_go p k s hn he] at h ⊢
        rcases run_fine p k _ h with e | e
        · exact .inl (congrArg Nat.succ e)
        · exact .inr e
      · rw [runS_err p k s hn he] at h; exact absurd h he
theorem run_fell (p : List Fn) : ∀ (k : Nat) (s : St), (runS p k s).2.2 ≠ 0 → (runS p k s).2.1 < k ∧ 0 ≤ (runS p k s).1.now ∧ (doneS p (runS p k s).1).2 = (runS p k s).2.2
  | 0, s, h => absurd rfl h
  | k + 1, s, h => by
    by_cases hn : s.now < 0
    · rw [runS_stop p _ s (.inr hn)] at h; exact absurd rfl h
    · by_cases he : (doneS p s).2 = 0
      · rw [runS_go p k s hn he] at h ⊢
        obtain ⟨h1, h2, h3⟩ := run_fell p k _ h
        exact ⟨Nat.succ_lt_succ h1, h2, h3⟩
      · rw [runS_err p k s hn he]; exact ⟨Nat.succ_pos _, by show 0 ≤ s.now; omega, rfl⟩
theorem run_more (p : List Fn) (n : Nat) : ∀ (m : Nat) (s : St), (runS p m s).2.2 = 0 → runS p (m + n) s = ((runS p n (runS p m s).1).1, (runS p m s).2.1 + (runS p n (runS p m s).1).2.1, (runS p n (runS p m s).1).2.2)
  | 0, s, _ => by simp [runS]
  | m + 1, s, h => by
    by_cases hn : s.now < 0
    · rw [runS_stop p (m + 1) s (.inr hn), runS_stop p _ s (.inr hn)]
      show _ = ((runS p n s).1, 0 + (runS p n s).2.1, (runS p n s).2.2)
      rw [runS_stop p _ s (.inr hn)]
      rfl
    · by_cases he : (doneS p s).2 = 0
      · rw [runS_go p m s hn he] at h ⊢
        rw [show m + 1 + n = (m + n) + 1 by omega, runS_go p _ s hn he, run_more p n m _ h]
        simp only [Prod.mk.injEq, true_and, and_true]
        omega
      · rw [runS_err p m s hn he] at h; exact absurd h he
theorem run_still (p : List Fn) (n : Nat) : ∀ (m : Nat) (s : St), (runS p m s).2.2 ≠ 0 → runS p (m + n) s = runS p m s
  | 0, s, h => absurd rfl h
  | m + 1, s, h => by
    by_cases hn : s.now < 0
    · rw [runS_stop p _ s (.inr hn)] at h; exact absurd rfl h
    · by_cases he : (doneS p s).2 = 0
      · rw [runS_go p m s hn he] at h ⊢
        rw [show m + 1 + n = (m + n) + 1 by omega, runS_go p _ s hn he, run_still p n m _ h]
      · rw [runS_err p m s hn he, show m + 1 + n = (m + n) + 1 by omega, runS_err p _ s hn he]
theorem run_again (p : List Fn) (n m : Nat) (s : St) (h : (runS p m s).2.2 ≠ 0) : runS p n (runS p m s).1 = ((runS p m s).1, 0, if n = 0 then 0 else (runS p m s).2.2) := by
  obtain ⟨_, h2, h3⟩ := run_fell p m s h
  cases n with
  | zero => rfl
  | succ n => rw [runS_err p n _ (by omega) (by rw [h3]; exact h), h3]; simp
theorem turn_out (s : St) (n : Int) (g : Fb → Fb) : (s.turn n g).out = s.out := rfl
def Outs (s : St) (r : St × Int) : Prop := r.2 = 0 → ∃ l, r.1.out = s.out ++ l
theorem outs_same {s t : St} (h : t.out = s.out) : Outs s (t, 0) := fun _ => ⟨[], by simp [h]⟩
theorem outs_err {s t : St} {e : Int} (h : e ≠ 0) : Outs s (t, e) := fun h' => absurd h' h
theorem put_out {s t : St} {v : Int} (h : t.out = s.out) : Outs s (putS t v) := by
  unfold putS
  split
  · exact outs_err (by decide)
  · exact fun _ => ⟨[v], by simp [h]⟩
theorem outs_ite {s : St} {c : Prop} [Decidable c] {a b : St × Int} (ha : Outs s a) (hb : Outs s b) : Outs s (if c then a else b) := by split <;> assumption
theorem done_outs (p : List Fn) (s : St) : Outs s (doneS p s) := by
  unfold doneS
  extract_lets x s1
  have h1 : s1.out = s.out := rfl
  clear_value x s1
  refine outs_ite (outs_same h1) (outs_ite (outs_same h1) (outs_ite (outs_same h1) (outs_ite (outs_same h1) (outs_ite (outs_same h1) (outs_ite (by split <;> exact outs_same h1) (outs_ite ?_ (outs_ite ?_ (outs_ite ?_ (outs_ite ?_ (outs_ite ?_ (outs_ite (put_out h1) (outs_same h1))))))))))))
  · exact outs_ite (outs_err (by decide)) (outs_same h1)
  · exact outs_ite (outs_ite (put_out h1) (outs_same h1)) (outs_same h1)
  · exact outs_ite (outs_err (by decide)) (outs_same h1)
  · exact outs_ite (outs_ite (outs_err (by decide)) (outs_ite (outs_same h1) (outs_same h1))) (outs_err (by decide))
  · exact outs_ite (outs_err (by decide)) (outs_same h1)
theorem done_out {p : List Fn} {s : St} (h : (doneS p s).2 = 0) : ∃ l, (doneS p s).1.out = s.out ++ l := done_outs p s h
theorem run_out (p : List Fn) : ∀ (k : Nat) (s : St), ∃ l, (runS p k s).1.out = s.out ++ l
  | 0, s => ⟨[], by simp [runS]⟩
  | k + 1, s => by
    by_cases hn : s.now < 0
    · rw [runS_stop p _ s (.inr hn)]; exact ⟨[], by simp⟩
    · by_cases he : (doneS p s).2 = 0
      · rw [runS_go p k s hn he]
        obtain ⟨l, e⟩ := done_out he
        obtain ⟨r, e'⟩ := run_out p k (doneS p s).1
        exact ⟨l ++ r, by rw [e', e]; simp⟩
      · rw [runS_err p k s hn he]; exact ⟨[], by simp⟩
end Go.Proofs.YtlapliclhfpgkaaDoor
