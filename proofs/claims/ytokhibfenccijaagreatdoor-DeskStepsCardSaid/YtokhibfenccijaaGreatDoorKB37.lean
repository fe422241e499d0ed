/- CloneG, StateL -/
import Derived.Test.YtokhibfenccijaaGreatDoorKB36
import Derived.Test.YtokhibfenccijaaGreatDoorKB22
import Derived.Test.YtokhibfenccijaaGreatDoorKB26
set_option maxRecDepth 100000
set_option maxHeartbeats 8000000
namespace Go.Proofs.YtokhibfenccijaaGreatDoor
open Go.RowKit
def CopyPost (s : St) (w : World) (en : Ending) (w' : World) : Prop :=
  ∃ V, en = .returned (.agg #[V .fibers, .int .i64 s.now, V .out]) ∧ Own w.heap.size w' V s ∧ Kept w w'
theorem ownState_copy (s : St) (v : Value) (w : World) (h : StAt w v s) (hn : Short s) : Calls Tryz.prog 60 #[v] w (CopyPost s w) := by
  obtain ⟨vf, vo, rfl, hf, ho⟩ := h
  have HC1 : Hid (∀ u, Kept w u → Calls Tryz.prog 89 #[vf, .func (.func 90) #[] #[]] u (EachFb s u)) := hide (fun u hu => eachFibers_any s vf u (hf.kept hu) hn)
  obtain ⟨oa, cap, rfl, _, _⟩ := hf
  obtain ⟨oo, co, rfl, _, hoi⟩ := ho
  have HC2 : Hid (∀ u, Kept w u → Calls Tryz.prog 91 #[.slice oo s.out.length co] u (ClonePost 3 1 s.out.length (ints s.out) u)) := hide (fun u hu => cloneInts_any _ oo co _ u ((ints_cells hoi).kept hu) (by rw [ints_len, Nat.mul_one]) hn.2.1)
  have HW := hide (fun (u u1 : World) (V : Key → Value) (vo : Value) (base : Nat) => OwnOn.whole (base := base) (w := u) (w1 := u1) (V := V) (s := s) (vo := vo))
  clear hoi hn
  generalize hN : s.fibers.length = n at *
  generalize hM : s.out.length = m at *
  generalize hc : s.now = c at *
  go_enter Tryz.func60, Tryz.ntmps60
  go_wp2_with fail
  generalize hw2 : ((w.alloc (.cells #[.slice oa n cap, .int .i64 c, .slice oo m co] 44)).alloc (.cells #[.slice none 0 0, .int .i64 0, .slice none 0 0] 44)) = w2
  have hk2 : Kept w w2 := by rw [← hw2]; exact ((Kept.refl w).alloc _).alloc _
  have hz2 : w2.heap.size = w.heap.size + 2 := by rw [← hw2]; simp
  have lX : w2.heap[w.heap.size]? = some (.cells #[.slice oa n cap, .int .i64 c, .slice oo m co] 44) := by rw [← hw2]; exact lays_alloc (lays_new rfl) _
  have lR : w2.heap[w.heap.size + 1]? = some (.cells #[.slice none 0 0, .int .i64 0, .slice none 0 0] 44) := by rw [← hw2]; exact lays_new (by simp)
  clear hw2
  have hH : ∀ u, Kept w2 u → u.cell? ⟨w.heap.size, 0, none⟩ = some (.slice oa n cap) ∧ u.cell? ⟨w.heap.size, 1, none⟩ = some (.int .i64 c) ∧ u.cell? ⟨w.heap.size, 2, none⟩ = some (.slice oo m co) :=
    fun u hu => have l := lays_kept hu lX; ⟨cell_lays l 0, cell_lays l 1, cell_lays l 2⟩
  have HH := hide hH
  refine wp_regionP 9 [0, 1, 3, 4, 5, 6] (fun u => u.cell? ⟨w.heap.size, 0, none⟩ = some (.slice oa n cap) ∧ u.cell? ⟨w.heap.size, 1, none⟩ = some (.int .i64 c) ∧ u.cell? ⟨w.heap.size, 2, none⟩ = some (.slice oo m co)) (by kernel_rfl) ?_
  have hHeld := hH w2 (Kept.refl w2)
  clear hH
  repeat
    refine takeP (v := ?_) hHeld (fun u hSu => ?_) ?_
    rotate_left
    · ((try dsimp only at hSu); go_simp) <;> with_reducible rfl
    try simp only [Act.put, List.setIfInBounds_toArray, List.set_cons_zero, List.set_cons_succ]
  refine takeP_end ?_
  refine takeT_one (i := 2) rfl (by kernel_rfl) (fun K hK => ?_)
  go_simp
  refine ((unhide HC1) _ (hk2.drew)).mono ?_
  rintro e w3 ⟨V, rfl, ho, hk3⟩
  have hk23 : Kept w2 w3 := ((Kept.refl w2).drew).trans hk3
  obtain ⟨xs, hr, _⟩ := ho.piece .fibers trivial
  obtain ⟨o1, c1, hV, _⟩ := row_slice hr
  rw [hN] at hV
  rw [hV]
  refine hK.out _ _ (fun _ => (unhide HH) w3 hk23) ?_
  clear hK K
  try simp only [Act.put, List.setIfInBounds_toArray, List.set_cons_zero, List.set_cons_succ]
  refine takeT_one (i := 7) rfl (by kernel_rfl) (fun K hK => ?_)
  go_simp
  refine ((unhide HC2) _ (hk2.trans hk23)).mono ?_
  rintro e w4 ⟨v4, rfl, ho4, hk4⟩
  obtain ⟨o2, c2, rfl, _⟩ := row_slice ho4
  have hk24 : Kept w2 w4 := hk23.trans hk4
  refine hK.out _ _ (fun _ => (unhide HH) w4 hk24) ?_
  clear hK K
  try simp only [Act.put, List.setIfInBounds_toArray, List.set_cons_zero, List.set_cons_succ]
  refine takeT_one (i := 8) rfl (by kernel_rfl) (fun K hK => ?_)
  go_simp
  refine hK.out _ _ (fun _ => (unhide HH) w4 hk24) ?_
  clear hK K
  try simp only [Act.put, List.setIfInBounds_toArray, List.set_cons_zero, List.set_cons_succ]
  have lR4 := lays_kept hk24 lR
  have r0 := cell_lays lR4 0
  have r1 := cell_lays lR4 1
  have r2 := cell_lays lR4 2
  have f0 := frozen_lays lR4 0
  have f1 := frozen_lays lR4 1
  have f2 := frozen_lays lR4 2
  refine takeT_one (i := 9) rfl (by kernel_rfl) (fun K hK => ?_)
  go_simp
  refine hK.out _ _ (fun h => absurd rfl h) ?_
  clear hK K
  refine takeT_done (by kernel_rfl) ?_ _
  have lR5 := lays_set (lays_set (lays_set lR4 0 (.slice o1 n c1)) 1 (.int .i64 c)) 2 (.slice o2 m c2)
  have hz : w.heap.size + 2 ≤ (w2.drew).heap.size := by simp; omega
  have hz3 : w.heap.size + 2 ≤ w3.heap.size := by have := hk23.size; omega
  have hown : Own (w.heap.size + 2) w4 (upd V .out (.slice o2 m c2)) s := (unhide HW) w3 w4 V (.slice o2 m c2) (w.heap.size + 2) (by rw [← hN]; exact ho.low hz) hz3 hk4 ho4
  have hoff : Own.off (upd V .out (.slice o2 m c2)) s (w.heap.size + 1) := hown.new_off (.inr (by omega))
  have t1 : Own (w.heap.size + 2) _ _ _ := ((hown.setOff (a := ⟨w.heap.size + 1, 0, none⟩) hoff (.slice o1 n c1)).setOff (a := ⟨w.heap.size + 1, 1, none⟩) hoff (.int .i64 c)).setOff (a := ⟨w.heap.size + 1, 2, none⟩) hoff (.slice o2 m c2)
  have hk5 := (((hk2.trans hk24).setCell (p := ⟨w.heap.size + 1, 0, none⟩) (Nat.le_succ _) (.slice o1 n c1)).setCell (p := ⟨w.heap.size + 1, 1, none⟩) (Nat.le_succ _) (.int .i64 c)).setCell (p := ⟨w.heap.size + 1, 2, none⟩) (Nat.le_succ _) (.slice o2 m c2)
  generalize (((w4.setCell ⟨w.heap.size + 1, 0, none⟩ (.slice o1 n c1)).setCell ⟨w.heap.size + 1, 1, none⟩ (.int .i64 c)).setCell ⟨w.heap.size + 1, 2, none⟩ (.slice o2 m c2)) = w5 at *
  have z0 : w5.cell? ⟨w.heap.size + 1, 0, none⟩ = some (.slice o1 n c1) := cell_lays lR5 0
  have z1 : w5.cell? ⟨w.heap.size + 1, 1, none⟩ = some (.int .i64 c) := cell_lays lR5 1
  have z2 : w5.cell? ⟨w.heap.size + 1, 2, none⟩ = some (.slice o2 m c2) := cell_lays lR5 2
  have t2 : Own w.heap.size w5 (upd V .out (.slice o2 m c2)) s := ⟨fun k hk => (t1.piece k hk).low (by omega), t1.apart⟩
  have HT := hide (And.intro t2 hk5)
  have HV := hide hV
  clear t1 t2 hk5 lR5 r0 r1 r2 f0 f1 f2 ho hk3 hk4 hk23 hk24 lR4 hHeld HH HC1 HC2 lX lR hr hV ho4 hown hoff HW
  go_wp2
  refine bodyPost_ret (v := .agg #[.slice o1 n c1, .int .i64 c, .slice o2 m c2]) (by simp [results, Tryz.results60, go_sem, z0, z1, z2]) rfl ?_
  exact ⟨upd V .out (.slice o2 m c2), by rw [upd_same, upd_ne V _ (by simp), unhide HV, hc], (unhide HT).1, (unhide HT).2⟩
theorem hlen_of {p : List Fn} (h : progS p = 0) : HLen p := fun _ hk => (cons_code h hk).1.len
theorem hbound_of {p : List Fn} (h : progS p = 0) : HBound p := fun k a hk => by
  have := hgt_le h hk a
  omega
end Go.Proofs.YtokhibfenccijaaGreatDoor
