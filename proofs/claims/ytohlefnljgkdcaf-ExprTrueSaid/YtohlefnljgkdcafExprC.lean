/-
  The program's kinds of nodes: a map. Contracts of kindsOver, isOne.
-/
import Derived.Test.YtohlefnljgkdcafExprG
import Derived.Maps.OwnSet
namespace Go.Proofs.Ytohlefnljgkdcaf
open Go.RowKit Go.Maps

/-- How an entry reads: two integers. -/
def kindR : Value → Option (DataW Unit × List MemPlace)
  | .agg cs => (match cs.toList with
    | [.int .i64 a, .int .i64 b] => some (.agg [.lit (.int .i64 a), .lit (.int .i64 b)], [])
    | _ => none)
  | _ => none
theorem kindR_mk (a b : Int) : kindR (.agg #[.int .i64 a, .int .i64 b]) = some (.agg [.lit (.int .i64 a), .lit (.int .i64 b)], []) := rfl
theorem kindR_inv {v : Value} {a b : Int} {ps : List MemPlace} (h : kindR v = some (.agg [.lit (.int .i64 a), .lit (.int .i64 b)], ps)) : v = .agg #[.int .i64 a, .int .i64 b] := by
  unfold kindR at h
  split at h
  · rename_i cs
    split at h
    · rename_i x y hc
      simp at h
      obtain ⟨⟨rfl, rfl⟩, _⟩ := h
      cases cs
      simp at hc
      rw [hc]
    · cases h
  · cases h

def entryD (a b : Int) : DataW Unit := .agg [.lit (.int .i64 a), .lit (.int .i64 b)]
/-- What the map holds, if there are n locals. -/
def kindD (n : Int) : DataW Unit :=
  ((((((((DataW.map []).put (.int .i64 0) (entryD 0 999)).put (.int .i64 1) (entryD 0 (n - 1))).put (.int .i64 2) (entryD 2 0)).put (.int .i64 3) (entryD 2 0)).put (.int .i64 4) (entryD 2 0)).put (.int .i64 5) (entryD 2 0)).put (.int .i64 6) (entryD 2 0)).put (.int .i64 7) (entryD 3 0)

theorem lit_is (a : Int) : WideAt.IsKeyLit (Lit.int .i64 a) := trivial
theorem lit_ne {a b : Int} (h : a ≠ b) : Lit.int .i64 a ≠ Lit.int .i64 b := by
  intro e
  simp only [Lit.int.injEq, true_and] at e
  exact h e

/-- The map lies in block B. -/
def KindAt (w : World) (B : Nat) (n : Int) : Prop := w.ownsMap Try.prog 3 kindR B 8 (kindD n)
theorem KindAt.kept {w w' : World} {B : Nat} {n : Int} (h : KindAt w B n) (k : Kept w w') : KindAt w' B n := by
  obtain ⟨es, clock, hb, F, hs, hD⟩ := h
  exact ⟨es, clock, lays_kept k hb, F, hs, hD⟩

theorem keyInt : Keyed Try.prog 3 := int_keyed Try.underlying3
theorem zeroKind (w : World) : (zeroValue 39).run Try.prog w = .ok (.agg #[.int .i64 0, .int .i64 0]) w := by kernel_rfl


theorem kindD_has (n k : Int) : Maps.has (kindD n) (.int .i64 k) = decide (0 ≤ k ∧ k ≤ 7) := by
  have t0 : Tidy (DataW.map [] : DataW Unit) := tidy_empty
  have t1 := t0.put (lit_is 0) (entryD 0 999)
  have t2 := t1.put (lit_is 1) (entryD 0 (n - 1))
  have t3 := t2.put (lit_is 2) (entryD 2 0)
  have t4 := t3.put (lit_is 3) (entryD 2 0)
  have t5 := t4.put (lit_is 4) (entryD 2 0)
  have t6 := t5.put (lit_is 5) (entryD 2 0)
  have t7 := t6.put (lit_is 6) (entryD 2 0)
  unfold kindD
  by_cases h7 : k = 7
  · subst h7; rw [has_put_same t7.isMap (lit_is _)]; rfl
  rw [has_put_other (lit_ne h7)]
  by_cases h6 : k = 6
  · subst h6; rw [has_put_same t6.isMap (lit_is _)]; rfl
  rw [has_put_other (lit_ne h6)]
  by_cases h5 : k = 5
  · subst h5; rw [has_put_same t5.isMap (lit_is _)]; rfl
  rw [has_put_other (lit_ne h5)]
  by_cases h4 : k = 4
  · subst h4; rw [has_put_same t4.isMap (lit_is _)]; rfl
  rw [has_put_other (lit_ne h4)]
  by_cases h3 : k = 3
  · subst h3; rw [has_put_same t3.isMap (lit_is _)]; rfl
  rw [has_put_other (lit_ne h3)]
  by_cases h2 : k = 2
  · subst h2; rw [has_put_same t2.isMap (lit_is _)]; rfl
  rw [has_put_other (lit_ne h2)]
  by_cases h1 : k = 1
  · subst h1; rw [has_put_same t1.isMap (lit_is _)]; rfl
  rw [has_put_other (lit_ne h1)]
  by_cases h0 : k = 0
  · subst h0; rw [has_put_same t0.isMap (lit_is _)]; rfl
  rw [has_put_other (lit_ne h0)]
  have : ¬ (0 ≤ k ∧ k ≤ 7) := by omega
  simp [Maps.has, this]

theorem kindD_at (n k : Int) (z : DataW Unit) : (kindD n).atKey (.int .i64 k) z = if 0 ≤ k ∧ k ≤ 7 then entryD (partsS k) (mostS n k) else z := by
  have t0 : Tidy (DataW.map [] : DataW Unit) := tidy_empty
  have t1 := t0.put (lit_is 0) (entryD 0 999)
  have t2 := t1.put (lit_is 1) (entryD 0 (n - 1))
  have t3 := t2.put (lit_is 2) (entryD 2 0)
  have t4 := t3.put (lit_is 3) (entryD 2 0)
  have t5 := t4.put (lit_is 4) (entryD 2 0)
  have t6 := t5.put (lit_is 5) (entryD 2 0)
  have t7 := t6.put (lit_is 6) (entryD 2 0)
  unfold kindD
  by_cases h7 : k = 7
  · subst h7; rw [atKey_put_same t7.isMap (lit_is _)]; rfl
  rw [atKey_put_other (lit_ne h7)]
  by_cases h6 : k = 6
  · subst h6; rw [atKey_put_same t6.isMap (lit_is _)]; rfl
  rw [atKey_put_other (lit_ne h6)]
  by_cases h5 : k = 5
  · subst h5; rw [atKey_put_same t5.isMap (lit_is _)]; rfl
  rw [atKey_put_other (lit_ne h5)]
  by_cases h4 : k = 4
  · subst h4; rw [atKey_put_same t4.isMap (lit_is _)]; rfl
  rw [atKey_put_other (lit_ne h4)]
  by_cases h3 : k = 3
  · subst h3; rw [atKey_put_same t3.isMap (lit_is _)]; rfl
  rw [atKey_put_other (lit_ne h3)]
  by_cases h2 : k = 2
  · subst h2; rw [atKey_put_same t2.isMap (lit_is _)]; rfl
  rw [atKey_put_other (lit_ne h2)]
  by_cases h1 : k = 1
  · subst h1; rw [atKey_put_same t1.isMap (lit_is _)]; rfl
  rw [atKey_put_other (lit_ne h1)]
  by_cases h0 : k = 0
  · subst h0; rw [atKey_put_same t0.isMap (lit_is _)]; rfl
  rw [atKey_put_other (lit_ne h0)]
  have : ¬ (0 ≤ k ∧ k ≤ 7) := by omega
  rw [if_neg this]
  rfl

theorem KindAt.look {w : World} {B : Nat} {n k : Int} (h : KindAt w B n) (hw : (Lit.int .i64 k).wf = true) (h0 : 0 ≤ k) (h7 : k ≤ 7) :
    (Instr.lookup 36 (.map (some B)) (.int .i64 k) false).run Try.prog w = .ok (.agg #[.int .i64 (partsS k), .int .i64 (mostS n k)]) w := by
  obtain ⟨v, ps, hrun, hR⟩ := World.ownsMap.lookup h keyInt Try.underlying36 (zeroKind w) (kindR_mk 0 0) (keyOf_int_mk Try.underlying3 hw)
  rw [kindD_at, if_pos ⟨h0, h7⟩] at hR
  rw [hrun, kindR_inv hR]
theorem KindAt.look_ok {w : World} {B : Nat} {n k : Int} (h : KindAt w B n) (hw : (Lit.int .i64 k).wf = true) :
    (Instr.lookup 36 (.map (some B)) (.int .i64 k) true).run Try.prog w = .ok (.tuple #[.agg #[.int .i64 (if 0 ≤ k ∧ k ≤ 7 then partsS k else 0), .int .i64 (if 0 ≤ k ∧ k ≤ 7 then mostS n k else 0)], .bool (decide (0 ≤ k ∧ k ≤ 7))]) w := by
  obtain ⟨v, ps, hrun, hR⟩ := World.ownsMap.look_ok h keyInt Try.underlying36 (zeroKind w) (kindR_mk 0 0) (keyOf_int_mk Try.underlying3 hw)
  rw [kindD_at] at hR
  rw [kindD_has] at hrun
  rw [hrun]
  by_cases hk : 0 ≤ k ∧ k ≤ 7
  · rw [if_pos hk] at hR
    rw [kindR_inv hR, if_pos hk, if_pos hk]
  · rw [if_neg hk] at hR
    rw [kindR_inv hR, if_neg hk, if_neg hk]

theorem made (w : World) : (Instr.makeMap 36 none).run Try.prog w = .ok (.map (some w.heap.size)) (w.alloc (.map #[] 0)) := by kernel_rfl

set_option maxHeartbeats 2000000 in
theorem kindsOver_any (n : Int) (w : World) (h0 : 0 ≤ n) (h4 : n ≤ 4) :
    Calls Try.prog 9 #[.int .i64 n] w fun e w' => e = .returned (.map (some w.heap.size)) ∧ KindAt w' w.heap.size n ∧ Kept w w' := by
  have key : ∀ k : Int, 0 ≤ k → k ≤ 7 → keyOf Try.prog 3 (.int .i64 k) = some (.int .i64 k) := fun k a b => keyOf_int_mk Try.underlying3 (WalkArith.wf_i64 (by omega))
  have m0 := World.ownsMap_made w Try.prog 3 kindR
  obtain ⟨w1, r1, m1, g1⟩ := m0.update (t := 36) keyInt Try.underlying36 (by unfold maxLen; omega) (key 0 (by omega) (by omega)) (kindR_mk 0 999)
  obtain ⟨w2, r2, m2, g2⟩ := m1.update (t := 36) keyInt Try.underlying36 (by unfold maxLen; omega) (key 1 (by omega) (by omega)) (kindR_mk 0 (n - 1))
  obtain ⟨w3, r3, m3, g3⟩ := m2.update (t := 36) keyInt Try.underlying36 (by unfold maxLen; omega) (key 2 (by omega) (by omega)) (kindR_mk 2 0)
  obtain ⟨w4, r4, m4, g4⟩ := m3.update (t := 36) keyInt Try.underlying36 (by unfold maxLen; omega) (key 3 (by omega) (by omega)) (kindR_mk 2 0)
  obtain ⟨w5, r5, m5, g5⟩ := m4.update (t := 36) keyInt Try.underlying36 (by unfold maxLen; omega) (key 4 (by omega) (by omega)) (kindR_mk 2 0)
  obtain ⟨w6, r6, m6, g6⟩ := m5.update (t := 36) keyInt Try.underlying36 (by unfold maxLen; omega) (key 5 (by omega) (by omega)) (kindR_mk 2 0)
  obtain ⟨w7, r7, m7, g7⟩ := m6.update (t := 36) keyInt Try.underlying36 (by unfold maxLen; omega) (key 6 (by omega) (by omega)) (kindR_mk 2 0)
  obtain ⟨w8, r8, m8, g8⟩ := m7.update (t := 36) keyInt Try.underlying36 (by unfold maxLen; omega) (key 7 (by omega) (by omega)) (kindR_mk 3 0)
  have HM : Hid (KindAt w8 w.heap.size n) := hide m8
  have bl : ∀ {a b : World}, Kept w a → a.grownBy b (some w.heap.size) → Kept w b := fun h g => Below.grown h g h.size (fun j hj => by cases hj; exact Nat.le_refl _)
  have HK : Hid (Kept w w8) := hide (bl (bl (bl (bl (bl (bl (bl (bl ((Kept.refl w).alloc _) g1) g2) g3) g4) g5) g6) g7) g8)
  have hmk := made
  clear m0 m1 m2 m3 m4 m5 m6 m7 m8 g1 g2 g3 g4 g5 g6 g7 g8 key bl
  go_enter Try.func9, Try.ntmps9
  go_wp2
  go_ret
  exact ⟨rfl, unhide HM, unhide HK⟩
end Go.Proofs.Ytohlefnljgkdcaf
