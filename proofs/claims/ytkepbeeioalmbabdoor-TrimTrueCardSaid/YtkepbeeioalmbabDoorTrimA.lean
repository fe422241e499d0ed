/-
  The contract of trim's places: a map that tells of each op that stays where it goes.
-/
import Derived.Test.YtkepbeeioalmbabDoorTrimS
import Derived.Test.YtkepbeeioalmbabDoorFlowG
import Derived.Maps.OwnSet
namespace Go.Proofs.YtkepbeeioalmbabDoor
open Go.RowKit Go.Maps

/-- What the map holds behind k heights. -/
def placesD (H : List Int) : Nat → DataW Unit
  | 0 => .map []
  | k + 1 => if 0 ≤ H.getD k 0 then (placesD H k).put (.int .i64 k) (.lit (.int .i64 (placeS H k))) else placesD H k

theorem key_is (a : Int) : WideAt.IsKeyLit (Lit.int .i64 a) := trivial
theorem key_ne {a b : Nat} (h : a ≠ b) : Lit.int .i64 (a : Int) ≠ Lit.int .i64 (b : Int) := by
  intro e
  simp only [Lit.int.injEq, true_and] at e
  omega
theorem placesD_tidy (H : List Int) : ∀ n, Tidy (placesD H n)
  | 0 => tidy_empty
  | n + 1 => by
    unfold placesD
    split
    · exact (placesD_tidy H n).put (key_is _) _
    · exact placesD_tidy H n
theorem placesD_has (H : List Int) (j : Nat) : ∀ n, Maps.has (placesD H n) (.int .i64 j) = decide (j < n ∧ 0 ≤ H.getD j 0)
  | 0 => by simp [placesD, Maps.has]
  | n + 1 => by
    have ih := placesD_has H j n
    unfold placesD
    by_cases hj : j = n
    · subst hj
      by_cases hs : 0 ≤ H.getD j 0
      · rw [if_pos hs, has_put_same (placesD_tidy H j).isMap (key_is _)]; exact (decide_eq_true ⟨Nat.lt_succ_self _, hs⟩).symm
      · rw [if_neg hs, ih]; simp only [hs, and_false]
    · have e : decide (j < n + 1 ∧ 0 ≤ H.getD j 0) = decide (j < n ∧ 0 ≤ H.getD j 0) := by
        apply decide_eq_decide.2
        omega
      rw [e]
      split
      · rw [has_put_other (key_ne hj), ih]
      · exact ih
theorem placesD_at (H : List Int) (j : Nat) (hs : 0 ≤ H.getD j 0) (z : DataW Unit) : ∀ n, j < n → (placesD H n).atKey (.int .i64 j) z = .lit (.int .i64 (placeS H j))
  | 0, h => by omega
  | n + 1, h => by
    unfold placesD
    by_cases hj : j = n
    · subst hj
      rw [if_pos hs, atKey_put_same (placesD_tidy H j).isMap (key_is _)]
    · have ih := placesD_at H j hs z n (by omega)
      split
      · rw [atKey_put_other (key_ne hj), ih]
      · exact ih
theorem placesD_size (H : List Int) : ∀ n, Maps.size (placesD H n) = placeS H n
  | 0 => rfl
  | n + 1 => by
    have ih := placesD_size H n
    have hh := placesD_has H n n
    unfold placesD placeS
    split
    · rw [size_put (placesD_tidy H n), hh, ih]; simp
    · exact ih

theorem lawInt : Keyed Tryd.prog 3 := int_keyed Tryd.underlying3
theorem zeroInt (w : World) : (zeroValue 3).run Tryd.prog w = .ok (.int .i64 0) w := by kernel_rfl

theorem make_hint (n : Nat) (u : World) : (Instr.makeMap 69 (some (.int .i64 n))).run Tryd.prog u = .ok (.map (some u.heap.size)) (u.alloc (.map #[] 0)) := by
  simp [Instr.makeMap, run_underlying Tryd.underlying69, asInt, asIntOf, Result.andThen]
/-- The map that lies in block B. -/
def MapAt (w : World) (B : Nat) (H : List Int) : Prop := w.ownsMap Tryd.prog 3 (plainElem (H := Unit) Tryd.prog 3) B H.length (placesD H H.length)
theorem MapAt.kept {w w' : World} {B : Nat} {H : List Int} (h : MapAt w B H) (k : Kept w w') : MapAt w' B H := by
  obtain ⟨es, clock, hb, F, hs, hD⟩ := h
  exact ⟨es, clock, lays_kept k hb, F, hs, hD⟩

theorem IntsAt.opened {w : World} {v : Value} {l : List Int} (h : IntsAt w v l) (h0 : 0 < l.length) : ∃ b o cap, v = .slice (some ⟨b, o, none⟩) l.length cap ∧ ∀ j, j < l.length → w.cell? ⟨b, o + j, none⟩ = some (.int .i64 (l.getD j 0)) := by
  obtain ⟨oa, cap, rfl, _, hi⟩ := h
  obtain ⟨b, o, rfl, _⟩ := hi 0 _ (getD_of_lt l 0 0 h0)
  refine ⟨b, o, cap, rfl, fun j hj => ?_⟩
  obtain ⟨b', o', e, hc⟩ := hi j _ (getD_of_lt l j 0 hj)
  obtain ⟨rfl, rfl⟩ := (by simpa using e : b = b' ∧ o = o')
  exact hc

set_option maxHeartbeats 4000000 in
theorem places_any (H : List Int) (b o m cap : Nat) (w : World) (hm : m = H.length) (hm24 : m ≤ 24) (hc : ∀ j, j < m → w.cell? ⟨b, o + j, none⟩ = some (.int .i64 (H.getD j 0))) :
    Calls Tryd.prog 43 #[.slice (some ⟨b, o, none⟩) m cap] w fun e w' => e = .returned (.map (some w.heap.size)) ∧ MapAt w' w.heap.size H ∧ Kept w w' := by
  have hmm := make_hint m
  have HM := hide hm
  have HC := hide hc
  clear hm hc
  go_enter Tryd.func43, Tryd.ntmps43
  go_wp2
  go_loopw [11] (fun s wr => ∃ k : Nat, k ≤ m ∧ s = .int .i64 k ∧ Hid (wr.ownsMap Tryd.prog 3 (plainElem (H := Unit) Tryd.prog 3) w.heap.size k (placesD H k)) ∧ Hid (Kept w wr)) (fun s _ => m - (intOf s).toNat)
  case atStart => exact ⟨0, Nat.zero_le _, rfl, World.ownsMap_made _ _ _ _, (Kept.refl _).alloc _⟩
  case round =>
    obtain ⟨k, hkm, rfl, HO, HKr⟩ := hrel
    by_cases hlt : k < m
    · have ck := (unhide HKr).cell ((unhide HC) k hlt)
      by_cases hs : 0 ≤ H.getD k 0
      · have hsz : (Maps.size (placesD H k) : Int) = (placeS H k : Nat) := by rw [placesD_size]
        have hle := placeS_le H k
        have hD : placesD H (k + 1) = (placesD H k).put (.int .i64 k) (.lit (.int .i64 (placeS H k))) := by
          conv => lhs; unfold placesD
          rw [if_pos hs]
        have hwf : (Lit.int .i64 (Maps.size (placesD H k) : Int)).wf = true := WalkArith.wf_i64 (by omega)
        have hown := unhide HO
        generalize H.getD k 0 = z at ck hs
        have HD := hide hD
        have HSZ := hide hsz
        clear hD hle
        go_wp2_with (first
          | (at_len; refine wpList_len_own _ rfl _ 69 rfl 3 3 Tryd.underlying69 _ w.heap.size k _ rfl hown ?_)
          | (at_mapUpdate; refine wpList_mapUpdate_own _ rfl _ _ _ 69 rfl 3 3 lawInt Tryd.underlying69 _ w.heap.size k _ rfl hown (by unfold maxLen; omega) _ _ _ rfl rfl (keyOf_int_mk Tryd.underlying3 (WalkArith.wf_i64 (by omega))) _ [] (plainElem_int Tryd.underlying3 hwf) ?_; intro w1 hown1 hgrow1)
          | go_in)
        have HO1 := hide hown1
        have HK1 := hide (Below.grown (unhide HKr) hgrow1 (unhide HKr).size (fun j hj => by cases hj; exact Nat.le_refl _))
        clear hown1 hgrow1 hown
        go_roundw
        case rel => exact ⟨k + 1, by omega, by go_num, by rw [unhide HD, ← unhide HSZ]; exact HO1, HK1⟩
        case measure => simp [intOf]; omega
      · have hD : placesD H (k + 1) = placesD H k := by
          conv => lhs; unfold placesD
          rw [if_neg hs]
        generalize H.getD k 0 = z at ck hs
        have HD := hide hD
        clear hD
        go_wp2
        go_roundw
        case rel => exact ⟨k + 1, by omega, by go_num, by rw [unhide HD]; exact (unhide HO).mono (Nat.le_succ _), HKr⟩
        case measure => simp [intOf]; omega
    · have hke : k = H.length := by have := unhide HM; omega
      have HE := hide hke
      clear hke
      go_wp2
      go_ret
      refine ⟨rfl, ?_, unhide HKr⟩
      have := unhide HO
      rw [unhide HE] at this
      exact this
end Go.Proofs.YtkepbeeioalmbabDoor
