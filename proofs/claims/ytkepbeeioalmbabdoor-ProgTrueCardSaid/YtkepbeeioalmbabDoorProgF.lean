/-
  The contract of the statements' own progBegun: it answers true.
-/
import Derived.Test.YtkepbeeioalmbabDoorProgC
import Derived.Test.YtkepbeeioalmbabDoorSameB
import Derived.Test.YtkepbeeioalmbabDoorOpL0
namespace Go.Proofs.YtkepbeeioalmbabDoor
open Go.RowKit

def cntA : List Fn := [⟨1, 1, cnt0⟩, ⟨1, 1, cnt1⟩, ⟨2, 2, cnt2⟩]
/-- What the store 'x[0].Args = 1' finds and leaves. -/
theorem CountAt.openedA {n0 : Nat} {w : World} {v : Value} (h : CountAt n0 w v) : ∃ b, n0 ≤ b ∧ v = .slice (some ⟨b, 0, none⟩) 3 3 ∧ w.cell? ⟨b, 0, none⟩ = some (.int .i64 0) ∧
    w.frozen? ⟨b, 0, none⟩ = false ∧ ProgAt (w.setCell ⟨b, 0, none⟩ (.int .i64 1)) (.slice (some ⟨b, 0, none⟩) 3 3) cntA := by
  obtain ⟨b0, b1, b2, b, h1, h2, h3, h4, rfl, g0, g1, g2, g3⟩ := h
  refine ⟨b, by omega, rfl, cell_lays g3 0, frozen_lays g3 0, ?_⟩
  refine progAt_block (lays_set g3 0 _) [(⟨1, 1, cnt0⟩, .slice (some ⟨b0, 0, none⟩) 14 14), (⟨1, 1, cnt1⟩, .slice (some ⟨b1, 0, none⟩) 12 12), (⟨2, 2, cnt2⟩, .slice (some ⟨b2, 0, none⟩) 4 4)] rfl (by simp) ?_ 3 3 rfl cntA rfl
  intro x hx
  simp only [List.mem_cons, List.not_mem_nil, or_false] at hx
  rcases hx with rfl | rfl | rfl
  · exact codeAt_block (lays_other g0 (by simp; omega) _) cnt0 rfl (by decide) 14 14 rfl
  · exact codeAt_block (lays_other g1 (by simp; omega) _) cnt1 rfl (by decide) 12 12 rfl
  · exact codeAt_block (lays_other g2 (by simp; omega) _) cnt2 rfl (by decide) 4 4 rfl

theorem bools_block {w : World} {b n : Nat} {l : List Bool} {A : Array Value} (h : w.heap[b]? = some (.cells A 4)) (hA : A = (l.map fun z => Value.bool z).toArray) (hl : l.length ≤ 8796093022208) (hn : n = l.length) : BoolsAt w (.slice (some ⟨b, 0, none⟩) n n) l := by
  subst hA hn
  exact BoolsIn.slice h hl rfl

theorem infoFunc : (Tryd.prog.info? 36).map (fun i => (i.zero, i.size, i.bytes)) = some (some (.agg #[.int .i64 0, .int .i64 0, .slice none 0 0]), 3, 40) := by kernel_rfl
theorem make_funcs6 (u : World) : ∃ A, (Instr.makeSlice 22 (.int .i64 6) (.int .i64 6)).run Tryd.prog u =
    .ok (.slice (some ⟨u.heap.size, 0, none⟩) 6 6) (u.alloc (.cells A 36)) := by
  obtain ⟨i0, hi, hz0, hz1, hz2⟩ := info_parts infoFunc
  have h := run_make (P := Tryd.prog) u 22 36 i0 (.agg #[.int .i64 0, .int .i64 0, .slice none 0 0]) Tryd.underlying22 hi hz0 .i64 .i64 6 6 (by omega) (Int.le_refl _) (by rw [hz2]; omega) (by omega)
  exact ⟨_, h⟩

set_option maxHeartbeats 4000000 in
theorem progBegun_any (w : World) (hk : KindsAt w) :
    Calls Tryd.prog 10 #[] w fun e w' => e = .returned (.bool true) ∧ Kept w w' := by
  have HK := hide hk
  clear hk
  go_enter Tryd.func10, Tryd.ntmps10
  go_wp2_with fail
  refine (count_any _).mono ?_
  rintro e w1 ⟨v1, rfl, hc1, hk1⟩
  have H1 : Hid (Kept w w1) := hk1
  have C1 := hide hc1
  clear hc1 hk1
  go_wp2_with fail
  refine (calls_is cntL _ _ [false, true, true] 0 _ (unhide C1).prog ((unhide HK).kept H1.out) (by decide +kernel) (by decide +kernel)).mono ?_
  rintro e w2 ⟨u2, rfl, hi2, hk2⟩
  have H2 : Hid (Kept w w2) := H1.out.trans hk2
  have I2 := hide hi2
  clear hi2 hk2 H1 C1
  go_wp2_with fail
  refine (count_any _).mono ?_
  rintro e w3 ⟨v3, rfl, hc1, hk1⟩
  have H3 : Hid (Kept w w3) := H2.out.trans hk1
  have I3 := hide ((unhide I2).kept hk1)
  have C1 := hide hc1
  clear hc1 hk1 H2 I2
  go_wp2_with fail
  refine (calls_is cntL _ _ [] 5 _ (unhide C1).prog ((unhide HK).kept H3.out) (by decide +kernel) (by decide +kernel)).mono ?_
  rintro e w4 ⟨u4, rfl, _, hk2⟩
  have H4 : Hid (Kept w w4) := H3.out.trans hk2
  have I4 := hide ((unhide I3).kept hk2)
  clear hk2 H3 I3 C1
  go_wp2_with fail
  refine (count_any _).mono ?_
  rintro e w5 ⟨v5, rfl, hc1, hk1⟩
  obtain ⟨b, hb, rfl, x0, xf, hx⟩ := hc1.openedA
  have H5 : Hid (Kept w (w5.setCell ⟨b, 0, none⟩ (.int .i64 1))) := (H4.out.trans hk1).setCell (Nat.le_trans H4.out.size hb) _
  have I5 := hide ((unhide I4).kept (hk1.setCell (p := ⟨b, 0, none⟩) hb (.int .i64 1)))
  have HX := hide hx
  clear hx hc1 hk1 hb H4 I4
  go_wp2_with fail
  refine (count_any _).mono ?_
  rintro e w6 ⟨v6, rfl, hc1, hk1⟩
  have H6 : Hid (Kept w w6) := H5.out.trans hk1
  have I6 := hide ((unhide I5).kept hk1)
  have X6 := hide ((unhide HX).kept hk1)
  have C1 := hide hc1
  clear hc1 hk1 H5 I5 HX
  go_wp2_with fail
  refine (progCheck_is cntL _ 0 _ (unhide C1).prog ((unhide HK).kept H6.out) (by decide +kernel)).mono ?_
  rintro e w7 ⟨rfl, hk1⟩
  have H7 : Hid (Kept w w7) := H6.out.trans hk1
  have I7 := hide ((unhide I6).kept hk1)
  have X7 := hide ((unhide X6).kept hk1)
  clear hk1 H6 I6 X6 C1
  go_wp2_with fail
  refine (progCheck_is [] _ 5 _ (nilProg _) ((unhide HK).kept H7.out) rfl).mono ?_
  rintro e w8 ⟨rfl, hk1⟩
  have H8 : Hid (Kept w w8) := H7.out.trans hk1
  have I8 := hide ((unhide I7).kept hk1)
  have X8 := hide ((unhide X7).kept hk1)
  clear hk1 H7 I7 X7
  go_wp2_with fail
  refine (progCheck_is cntA _ 1 _ (unhide X8) ((unhide HK).kept H8.out) rfl).mono ?_
  rintro e w9 ⟨rfl, hk1⟩
  have H9 : Hid (Kept w w9) := H8.out.trans hk1
  have I9 := hide ((unhide I8).kept hk1)
  clear hk1 H8 I8 X8
  obtain ⟨A6, hmk⟩ := make_funcs6 w9
  go_wp2_with fail
  refine (progCheck_many _ 6 6 _ (by decide)).mono ?_
  rintro e w10 ⟨rfl, hk1⟩
  have hk2 := ((Kept.refl w9).alloc _).trans hk1
  have H10 : Hid (Kept w w10) := H9.out.trans hk2
  have I10 := hide ((unhide I9).kept hk2)
  clear hk1 hk2 H9 I9 hmk
  go_wp2_with fail
  refine (sameBools_any _ [false, true, true] _ _ _ ((unhide I10).kept ((Kept.refl _).alloc _)) ?_).mono ?_
  · exact bools_block (lays_new (by simp)) rfl (by decide) rfl
  rintro e w11 ⟨rfl, hk2⟩
  have H11 : Hid (Kept w w11) := (H10.out.alloc _).trans hk2
  clear hk2 H10 I10
  go_wp2
  go_ret
  exact ⟨rfl, H11⟩
end Go.Proofs.YtkepbeeioalmbabDoor
