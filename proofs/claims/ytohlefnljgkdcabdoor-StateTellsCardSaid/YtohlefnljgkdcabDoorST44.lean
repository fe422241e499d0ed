/- StateMa -/
import Derived.Test.YtohlefnljgkdcabDoorST35
namespace Go.Proofs.YtohlefnljgkdcabDoor
open Go.RowKit
def NewPost (s : St) (w : World) (e : Ending) (w' : World) : Prop := ∃ v, e = .returned v ∧ (∀ u : World, (∀ b, w.heap.size ≤ b → u.heap[b]? = w'.heap[b]?) → StAt u v s) ∧ Kept w w'
set_option maxHeartbeats 1000000 in
set_option maxRecDepth 100000 in
theorem beginOf_new (b o n cp lo : Nat) (w : World) (c1 : w.cell? ⟨b, o + 1, none⟩ = some (.int .i64 lo)) (hn : 0 < n) (hlo : lo ≤ 1000) :
    Calls Tryd.prog 28 #[.slice (some ⟨b, o, none⟩) n cp] w fun e w' => NewPost ⟨[⟨[⟨0, 0, List.replicate lo 0, []⟩], -1⟩], 0, []⟩ w e w' := by
  have hmk := make_ints lo (by omega)
  have hn1 : (0 : Int) < (n : Int) := by omega
  have lb := cell_lt c1
  simp only at lb
  go_enter Tryd.func28, Tryd.ntmps28
  go_wp2
  generalize hB : w.heap.size = B0 at *
  have hrep : Array.replicate lo (Value.int .i64 0) = (ints (List.replicate lo 0)).toArray := by simp [ints]
  rw [hrep]
  generalize hw : (((w.alloc (.cells #[.slice (some ⟨B0 + 1 + 1 + 1, 0, none⟩) 1 1, .int .i64 0, .slice none 0 0] 54)).alloc (.cells (ints (List.replicate lo 0)).toArray 3)).alloc (.cells #[.int .i64 0, .int .i64 0, .slice (some ⟨B0 + 1, 0, none⟩) lo lo, .slice none 0 0] 76)).alloc (.cells #[.slice (some ⟨B0 + 1 + 1, 0, none⟩) 1 1, .int .i64 (-1)] 79) = wz
  have L0 : wz.heap[B0]? = some (.cells #[.slice (some ⟨B0 + 1 + 1 + 1, 0, none⟩) 1 1, .int .i64 0, .slice none 0 0] 54) := by rw [← hw]; exact lays_alloc (lays_alloc (lays_alloc (lays_new hB) _) _) _
  have L1 : wz.heap[B0 + 1]? = some (.cells (ints (List.replicate lo 0)).toArray 3) := by rw [← hw]; exact lays_alloc (lays_alloc (lays_new (by simp [hB])) _) _
  have L2 : wz.heap[B0 + 1 + 1]? = some (.cells #[.int .i64 0, .int .i64 0, .slice (some ⟨B0 + 1, 0, none⟩) lo lo, .slice none 0 0] 76) := by rw [← hw]; exact lays_alloc (lays_new (by simp [hB])) _
  have L3 : wz.heap[B0 + 1 + 1 + 1]? = some (.cells #[.slice (some ⟨B0 + 1 + 1, 0, none⟩) 1 1, .int .i64 (-1)] 79) := by rw [← hw]; exact lays_new (by simp [hB])
  have hk : Kept w wz := by rw [← hw]; exact ((((Kept.refl w).alloc _).alloc _).alloc _).alloc _
  have k0 : wz.cell? ⟨B0, 0, none⟩ = some (.slice (some ⟨B0 + 1 + 1 + 1, 0, none⟩) 1 1) := cell_at L0 rfl
  have k1 : wz.cell? ⟨B0, 1, none⟩ = some (.int .i64 0) := cell_at L0 rfl
  have k2 : wz.cell? ⟨B0, 2, none⟩ = some (.slice none 0 0) := cell_at L0 rfl
  refine bodyPost_ret (v := .agg #[.slice (some ⟨B0 + 1 + 1 + 1, 0, none⟩) 1 1, .int .i64 0, .slice none 0 0]) (by simp [results, Tryd.results28, go_sem, k0, k1, k2]) rfl ?_
  exact ⟨_, rfl, fun u hu => begin_at ((hu _ (by omega)).trans L1) ((hu _ (by omega)).trans L2) ((hu _ (by omega)).trans L3) hlo, hk⟩
theorem beginOf_sharp (p : List Fn) (vp : Value) (w : World) (hp : ProgAt w vp p) (hz : progS p = 0) :
    Calls Tryd.prog 28 #[vp] w fun e w' => NewPost (beginS p) w e w' := by
  obtain ⟨_, hp0, hck⟩ := progS_right hz
  obtain ⟨oa, cp, rfl, _, hcell⟩ := id hp
  obtain ⟨b, o, cv, rfl, _, c1, _, _⟩ := hcell 0 _ (getD_of_lt p 0 Fn.zero hp0)
  have hroom : 0 ≤ (p.getD 0 Fn.zero).locals ∧ (p.getD 0 Fn.zero).locals ≤ 4 := by
    obtain ⟨i, hi, _, _, hr, _⟩ := chkS_zero (hck 0 hp0)
    obtain rfl : i = 0 := by omega
    have := roomB_iff.1 hr
    omega
  obtain ⟨lo, hlo⟩ : ∃ lo : Nat, (p.getD 0 Fn.zero).locals = lo := ⟨(p.getD 0 Fn.zero).locals.toNat, by omega⟩
  unfold beginS
  rw [hlo] at c1 hroom ⊢
  rw [Int.toNat_natCast]
  exact beginOf_new b o _ cp lo w (by simpa using c1) hp0 (by omega)
end Go.Proofs.YtohlefnljgkdcabDoor
