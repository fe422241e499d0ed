/-
  The contract of the statements' own opBegun: it answers true.
-/
import Derived.Test.YtanbibneconhmaaDoorOpH
import Derived.Test.YtanbibneconhmaaDoorOpB
import Derived.Test.YtanbibneconhmaaDoorCount
namespace Go.Proofs.YtanbibneconhmaaDoor
open Go.RowKit

theorem effect_is (p : List Fn) (v : Value) (kd a r1 r2 r3 : Int) (w : World) (hp : ProgAt w v p) (hk : KindsAt w) (h : effS p kd a = (r1, r2, r3)) :
    Calls Tryd.prog 9 #[v, .agg #[.int .i64 kd, .int .i64 a]] w fun e w' => e = .returned (.tuple #[.int .i64 r1, .int .i64 r2, .int .i64 r3]) ∧ Kept w w' := by
  have := effect_any p v kd a w hp hk
  rw [h] at this
  exact this
theorem check_is (p : List Fn) (v : Value) (f r : Int) (w : World) (hp : ProgAt w v p) (hk : KindsAt w) (h : chkS p f = r) :
    Calls Tryd.prog 12 #[v, .int .i64 f] w fun e w' => e = .returned (.int .i64 r) ∧ Kept w w' := by
  have := check_any p v f w hp hk
  rw [h] at this
  exact this

theorem nilProg (w : World) : ProgAt w (.slice none 0 0) [] := ⟨none, 0, rfl, by simp, fun i f h => by simp at h⟩

def cntX : List Fn := [⟨0, 1, (13, 2) :: cnt0.tail⟩, ⟨1, 1, cnt1⟩, ⟨2, 2, cnt2⟩]
theorem CountAt.kept {n0 : Nat} {w w' : World} {v : Value} (h : CountAt n0 w v) (k : Kept w w') : CountAt n0 w' v := by
  obtain ⟨b0, b1, b2, b, h1, h2, h3, h4, rfl, g0, g1, g2, g3⟩ := h
  exact ⟨b0, b1, b2, b, h1, h2, h3, h4, rfl, lays_kept k g0, lays_kept k g1, lays_kept k g2, lays_kept k g3⟩

/-- What the store 'x[0].Code[0].A = 2' finds and leaves. -/
theorem CountAt.opened {n0 : Nat} {w : World} {v : Value} (h : CountAt n0 w v) : ∃ b b0, n0 ≤ b0 ∧ v = .slice (some ⟨b, 0, none⟩) 3 3 ∧ w.cell? ⟨b, 2, none⟩ = some (.slice (some ⟨b0, 0, none⟩) 14 14) ∧
    w.cell? ⟨b0, 1, none⟩ = some (.int .i64 1) ∧ w.frozen? ⟨b0, 1, none⟩ = false ∧ ProgAt (w.setCell ⟨b0, 1, none⟩ (.int .i64 2)) (.slice (some ⟨b, 0, none⟩) 3 3) cntX := by
  obtain ⟨b0, b1, b2, b, h1, h2, h3, h4, rfl, g0, g1, g2, g3⟩ := h
  refine ⟨b, b0, h1, rfl, cell_lays g3 2, cell_lays g0 1, frozen_lays g0 1, ?_⟩
  refine progAt_block (lays_other g3 (by simp; omega) _) [(⟨0, 1, (13, 2) :: cnt0.tail⟩, .slice (some ⟨b0, 0, none⟩) 14 14), (⟨1, 1, cnt1⟩, .slice (some ⟨b1, 0, none⟩) 12 12), (⟨2, 2, cnt2⟩, .slice (some ⟨b2, 0, none⟩) 4 4)] rfl (by simp) ?_ 3 3 rfl cntX rfl
  intro x hx
  simp only [List.mem_cons, List.not_mem_nil, or_false] at hx
  rcases hx with rfl | rfl | rfl
  · exact codeAt_block (lays_set g0 1 _) ((13, 2) :: cnt0.tail) rfl (by decide) 14 14 rfl
  · exact codeAt_block (lays_other g1 (by simp; omega) _) cnt1 rfl (by decide) 12 12 rfl
  · exact codeAt_block (lays_other g2 (by simp; omega) _) cnt2 rfl (by decide) 4 4 rfl

set_option maxHeartbeats 4000000 in
theorem opBegun_any (w : World) (hk : KindsAt w) :
    Calls Tryd.prog 11 #[] w fun e w' => e = .returned (.bool true) ∧ Kept w w' := by
  have HK := hide hk
  clear hk
  go_enter Tryd.func11, Tryd.ntmps11
  go_wp2_with fail
  refine (count_any _).mono ?_
  rintro e w1 ⟨v1, rfl, hc1, hk1⟩
  have H1 : Hid (Kept w w1) := hk1
  have C1 := hide hc1
  clear hc1 hk1
  go_wp2_with (go_at_call 25; refine (o_any _ _ _).mono ?_; rintro e w' ⟨rfl, rfl⟩)
  refine (effect_is cntL _ _ _ 2 1 0 _ ((unhide C1).prog.kept ((Kept.refl _).alloc _)) ((unhide HK).kept (H1.out.alloc _)) rfl).mono ?_
  rintro e w2 ⟨rfl, hk2⟩
  have H2 : Hid (Kept w w2) := (H1.out.alloc _).trans hk2
  clear hk2 H1 C1
  go_wp2_with fail
  refine (count_any _).mono ?_
  rintro e w3 ⟨v3, rfl, hc1, hk1⟩
  have H3 : Hid (Kept w w3) := H2.out.trans hk1
  have C1 := hide hc1
  clear hc1 hk1 H2
  go_wp2_with (go_at_call 25; refine (o_any _ _ _).mono ?_; rintro e w' ⟨rfl, rfl⟩)
  refine (effect_is cntL _ _ _ 2 1 0 _ ((unhide C1).prog.kept ((Kept.refl _).alloc _)) ((unhide HK).kept (H3.out.alloc _)) rfl).mono ?_
  rintro e w4 ⟨rfl, hk2⟩
  have H4 : Hid (Kept w w4) := (H3.out.alloc _).trans hk2
  clear hk2 H3 C1
  go_wp2_with fail
  refine (count_any _).mono ?_
  rintro e w5 ⟨v5, rfl, hc1, hk1⟩
  have H5 : Hid (Kept w w5) := H4.out.trans hk1
  have C1 := hide hc1
  clear hc1 hk1 H4
  go_wp2_with (go_at_call 25; refine (o_any _ _ _).mono ?_; rintro e w' ⟨rfl, rfl⟩)
  refine (effect_is cntL _ _ _ 0 0 5 _ ((unhide C1).prog.kept ((Kept.refl _).alloc _)) ((unhide HK).kept (H5.out.alloc _)) rfl).mono ?_
  rintro e w6 ⟨rfl, hk2⟩
  have H6 : Hid (Kept w w6) := (H5.out.alloc _).trans hk2
  clear hk2 H5 C1
  go_wp2_with (go_at_call 25; refine (o_any _ _ _).mono ?_; rintro e w' ⟨rfl, rfl⟩)
  refine (effect_is [] _ _ _ 0 0 4 _ (nilProg _) ((unhide HK).kept (H6.out.alloc _)) rfl).mono ?_
  rintro e w7 ⟨rfl, hk2⟩
  have H7 : Hid (Kept w w7) := (H6.out.alloc _).trans hk2
  clear hk2 H6
  go_wp2_with fail
  refine (count_any _).mono ?_
  rintro e w8 ⟨v8, rfl, hc1, hk1⟩
  obtain ⟨b, b0, hb0, rfl, x2, x1, xf, hx⟩ := hc1.opened
  have H9 : Hid (Kept w (w8.setCell ⟨b0, 1, none⟩ (.int .i64 2))) := (H7.out.trans hk1).setCell (Nat.le_trans H7.out.size hb0) _
  have HX := hide hx
  clear hx hc1 hk1 hb0 H7
  go_wp2_with fail
  refine (count_any _).mono ?_
  rintro e w10 ⟨v10, rfl, hc1, hk1⟩
  have H10 : Hid (Kept w w10) := H9.out.trans hk1
  have HX2 := hide ((unhide HX).kept hk1)
  have C1 := hide hc1
  clear hc1 hk1 H9 HX
  go_wp2_with fail
  refine (check_is cntL _ _ 0 _ (unhide C1).prog ((unhide HK).kept H10.out) rfl).mono ?_
  rintro e w11 ⟨rfl, hk1⟩
  have H11 : Hid (Kept w w11) := H10.out.trans hk1
  have HX3 := hide ((unhide HX2).kept hk1)
  clear hk1 H10 HX2 C1
  go_wp2_with fail
  refine (count_any _).mono ?_
  rintro e w12 ⟨v12, rfl, hc1, hk1⟩
  have H12 : Hid (Kept w w12) := H11.out.trans hk1
  have HX4 := hide ((unhide HX3).kept hk1)
  have C1 := hide hc1
  clear hc1 hk1 H11 HX3
  go_wp2_with fail
  refine (check_is cntL _ _ 5 _ (unhide C1).prog ((unhide HK).kept H12.out) rfl).mono ?_
  rintro e w13 ⟨rfl, hk1⟩
  have H13 : Hid (Kept w w13) := H12.out.trans hk1
  have HX5 := hide ((unhide HX4).kept hk1)
  clear hk1 H12 HX4 C1
  go_wp2_with fail
  refine (check_is cntX _ _ 1 _ (unhide HX5) ((unhide HK).kept H13.out) rfl).mono ?_
  rintro e w14 ⟨rfl, hk1⟩
  have H14 : Hid (Kept w w14) := H13.out.trans hk1
  clear hk1 H13 HX5
  go_wp2_with (go_at_call 25; refine (o_any _ _ _).mono ?_; rintro e w' ⟨rfl, rfl⟩)
  refine (check_is [⟨0, 0, [(2, 0)]⟩] _ _ 3 _ ?_ ((unhide HK).kept (((H14.out.alloc _).alloc _).alloc _)) rfl).mono ?_
  · refine progAt_block (b := w14.heap.size + 1 + 1) (t := 34) (fr := (0, 0)) (A := #[.int .i64 0, .int .i64 0, .slice (some ⟨w14.heap.size + 1, 0, none⟩) 1 1]) (lays_new (by simp)) [(⟨0, 0, [(2, 0)]⟩, .slice (some ⟨w14.heap.size + 1, 0, none⟩) 1 1)] rfl (by simp) ?_ 1 1 rfl _ rfl
    intro x hx
    simp only [List.mem_cons, List.not_mem_nil, or_false] at hx
    subst hx
    exact codeAt_block (lays_alloc (lays_new (by simp)) _) [(2, 0)] rfl (by decide) 1 1 rfl
  rintro e w15 ⟨rfl, hk1⟩
  have H15 : Hid (Kept w w15) := (((H14.out.alloc _).alloc _).alloc _).trans hk1
  clear hk1 H14
  go_wp2
  go_ret
  exact ⟨rfl, H15⟩
end Go.Proofs.YtanbibneconhmaaDoor
