/-
  The statement RunFar: its walk, of the contracts of what it calls.
-/
import Derived.Test.YtlapliclhfpgkaaDoorStX
import Derived.Test.YtlapliclhfpgkaaDoorRB24
namespace Go.Proofs.YtlapliclhfpgkaaDoor
open Go.RowKit

set_option maxRecDepth 100000 in
set_option maxHeartbeats 8000000 in
theorem runFar_w (vp : Value) (ca cb : Int) (w : World) (m n : Nat) (hmn : m + n ≤ 500) (er : Int) (x r : List Int) (i j : Nat) (e f : Int)
    (HC1 : Hid (∀ u, Calls Tryd.prog 11 #[.int .i64 ca, .int .i64 250] u fun e w' => e = .returned (.int .i64 m) ∧ w' = u))
    (HC2 : Hid (∀ u, Calls Tryd.prog 11 #[.int .i64 cb, .int .i64 250] u fun e w' => e = .returned (.int .i64 n) ∧ w' = u))
    (HA1 : Hid (∀ u, Kept w u → GivesInts 10 #[vp, .int .i64 m] u x [.int .i64 i, .int .i64 e]))
    (HA2 : Hid (∀ u, Kept w u → GivesInts 10 #[vp, .int .i64 ((m : Int) + (n : Int))] u (x ++ r) [.int .i64 j, .int .i64 f]))
    (HPC : Hid (∀ u, Kept w u → Calls Tryd.prog 17 #[vp] u fun e w' => e = .returned (.int .i64 er) ∧ Kept u w'))
    (HSI : Hid (∀ u v1 v2, IntsW u v1 x → IntsW u v2 x → Calls Tryd.prog 12 #[v1, v2] u fun e w' => e = .returned (.bool true) ∧ Kept u w'))
    (HRB : Hid (∀ u, Kept w u → Calls Tryd.prog 15 #[] u fun e w' => e = .returned (.bool true) ∧ Kept u w'))
    (hgood : (er ≠ 0 → e = f) ∧ (er = 0 → i ≤ m ∧ j ≤ m + n ∧ i ≤ j ∧ (e = 0 ∨ (e = f ∧ i = j)))) :
    Calls Tryd.prog 5 #[vp, .int .i64 ca, .int .i64 cb] w fun e w' => e = .returned (.bool true) ∧ Kept w w' := by
  have HG := hide hgood
  have hmn' : IntKind.i64.wrap ((m : Int) + (n : Int)) = (m : Int) + (n : Int) := wrap_tiny _ (by omega) (by omega)
  clear hgood
  go_enter Tryd.func5, Tryd.ntmps5
  go_wp2_with fail
  refine ((unhide HC1) _).mono ?_
  rintro _ w0 ⟨rfl, hw0⟩
  subst hw0
  go_wp2_with fail
  refine ((unhide HC2) _).mono ?_
  rintro _ w0 ⟨rfl, hw0⟩
  subst hw0
  clear HC1 HC2
  go_wp2_with fail
  refine ((unhide HA1) _ (Kept.refl _)).mono ?_
  rintro _ w1 ⟨oa, n1, c1, rfl, hn1, hc1, hi1, hk1⟩
  have HI := hide hi1
  have HK := hide hk1
  have HN1 := hide (And.intro hn1 hc1)
  clear hn1 hc1 hi1 hk1 HA1
  go_wp2_with fail
  refine ((unhide HA2) _ (unhide HK)).mono ?_
  rintro _ w2 ⟨ob, n2, c2, rfl, hn2, hc2, hi2, hk2⟩
  replace HK := hide ((unhide HK).trans hk2)
  replace HI := hide ((unhide HI).kept hk2)
  have HJ := hide hi2
  have HN2 := hide (And.intro hn2 hc2)
  clear hn2 hc2 hi2 hk2 HA2
  go_wp2_with fail
  refine ((unhide HPC) _ (unhide HK)).mono ?_
  rintro _ w3 ⟨rfl, hk3⟩
  replace HK := hide ((unhide HK).trans hk3)
  replace HI := hide ((unhide HI).kept hk3)
  replace HJ := hide ((unhide HJ).kept hk3)
  clear hk3 HPC
  by_cases he : er = 0
  · obtain ⟨h1, h2, h3, h4⟩ := (unhide HG).2 he
    subst he
    go_wp2_with fail
    refine ((unhide HRB) _ (unhide HK)).mono ?_
    rintro _ w4 ⟨rfl, hk4⟩
    replace HK := hide ((unhide HK).trans hk4)
    replace HI := hide ((unhide HI).kept hk4)
    replace HJ := hide ((unhide HJ).kept hk4)
    clear hk4 HRB
    have hle : n1 ≤ n2 := by rw [(unhide HN1).1, (unhide HN2).1]; simp
    have hcap : n1 ≤ c2 := Nat.le_trans hle (unhide HN2).2
    have HT := hide (intsW_take (unhide HJ))
    rw [← (unhide HN1).1] at HT
    have g1 : (i : Int) ≤ (m : Int) := by omega
    have g2 : (j : Int) ≤ (m : Int) + (n : Int) := by omega
    have g3 : (i : Int) ≤ (j : Int) := by omega
    have g4 : (n1 : Int) ≤ (n2 : Int) := by omega
    go_wp2_with fail
    refine ((unhide HSI) _ _ _ (unhide HT) (unhide HI)).mono ?_
    rintro _ w5 ⟨rfl, hk5⟩
    replace HK := hide ((unhide HK).trans hk5)
    clear hk5 HSI HT HI HJ g1 g2 g3 g4
    by_cases hz : e = 0
    · subst hz
      go_wp2
      go_ret
      exact ⟨rfl, unhide HK⟩
    · obtain ⟨e1, e2⟩ := h4.resolve_left hz
      subst e1 e2
      have g : (e == 0) = false := by rw [beq_eq_false_iff_ne]; exact hz
      go_wp2
      go_ret
      exact ⟨rfl, unhide HK⟩
  · have he' : (er != 0) = true := by rw [bne_iff_ne]; exact he
    obtain rfl := (unhide HG).1 he
    go_wp2_with fail
    refine ((unhide HRB) _ (unhide HK)).mono ?_
    rintro _ w4 ⟨rfl, hk4⟩
    replace HK := hide ((unhide HK).trans hk4)
    clear hk4 HRB
    go_wp2
    go_ret
    exact ⟨rfl, unhide HK⟩
end Go.Proofs.YtlapliclhfpgkaaDoor
