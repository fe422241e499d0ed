/- EngN -/
import Derived.Test.YtlapliclhfpgkaaDoorRB27
namespace Go.Proofs.YtlapliclhfpgkaaDoor
open Go.RowKit
set_option maxHeartbeats 8000000 in
set_option maxRecDepth 100000 in
theorem do_push (base bs : Nat) (V : Key → Value) (s : St) (i n cp bp op : Nat) (a : Int) (w : World) (h : OwnVar base w bs V s) (hn : s.now = i) (hr : Runs s i) :
    Calls Tryd.prog 47 #[eng bs (.slice (some ⟨bp, op, none⟩) n cp), .agg #[.int .i64 0, .int .i64 a]] w (EngPost base bs V s (pushV s i a, 0) w) := by
  have HP : Hid (∀ u V', OwnVar base u bs V' s → Calls Tryd.prog 66 #[eng bs (.slice (some ⟨bp, op, none⟩) n cp), .slice (some ⟨u.heap.size, 0, none⟩) 1 1] (u.alloc (.cells #[.int .i64 a] 3)) (OnePost base bs V' s (pushV s i a) (.tuple #[]) (u.alloc (.cells #[.int .i64 a] 3)))) := hide (fun u V' hu => engPut_any base bs V' s i n cp u.heap.size (some ⟨bp, op, none⟩) a _ (hu.alloc _) hn hr (cell_lays (lays_new rfl) 0))
  have HO := hide h
  clear h hr
  go_enter Tryd.func47, Tryd.ntmps47
  go_upto_region 3 with fail
  generalize hwb : (w.alloc (.cells #[.pointer (some ⟨bs, 0, none⟩), .slice (some ⟨bp, op, none⟩) n cp] 87)).alloc (.cells #[.int .i64 0, .int .i64 a] 54) = wb
  have hkb : Kept w wb := by rw [← hwb]; exact ((Kept.refl w).alloc _).alloc _
  have lB : wb.heap[w.heap.size]? = some (.cells #[.pointer (some ⟨bs, 0, none⟩), .slice (some ⟨bp, op, none⟩) n cp] 87) := by rw [← hwb]; exact lays_alloc (lays_new rfl) _
  have lX : wb.heap[w.heap.size + 1]? = some (.cells #[.int .i64 0, .int .i64 a] 54) := by rw [← hwb]; exact lays_new (by simp)
  have b0 : wb.cell? ⟨w.heap.size, 0, none⟩ = some (.pointer (some ⟨bs, 0, none⟩)) := cell_lays lB 0
  have b1 : wb.cell? ⟨w.heap.size, 1, none⟩ = some (.slice (some ⟨bp, op, none⟩) n cp) := cell_lays lB 1
  have b2 : wb.cell? ⟨w.heap.size + 1, 1, none⟩ = some (.int .i64 a) := cell_lays lX 1
  have HKB := hide hkb
  have HLB := hide lB
  have HLX := hide lX
  clear hwb hkb lB lX
  go_wp2_with fail
  refine ((unhide HP) _ V ((unhide HO).kept (unhide HKB))).mono ?_
  rintro e w1 ⟨rfl, V1, hm⟩
  have HM := hide (hm.pre (unhide HO) ((unhide HKB).alloc _))
  clear hm
  go_wp2
  go_end0
  exact Or.inl ⟨rfl, rfl, V1, unhide HM⟩
set_option maxHeartbeats 8000000 in
set_option maxRecDepth 100000 in
theorem do_pop (base bs : Nat) (V : Key → Value) (s : St) (i n cp bp op : Nat) (a : Int) (w : World) (h : OwnVar base w bs V s) (hn : s.now = i) (hr : Runs s i) (hst : 0 < (frAt s i ((fibAt s i).frames.length - 1)).stack.length) :
    Calls Tryd.prog 47 #[eng bs (.slice (some ⟨bp, op, none⟩) n cp), .agg #[.int .i64 1, .int .i64 a]] w (EngPost base bs V s (pullV s, 0) w) := by
  have HT : Hid (∀ u V', OwnVar base u bs V' s → Calls Tryd.prog 67 #[eng bs (.slice (some ⟨bp, op, none⟩) n cp)] u (OnePost base bs V' s (pullV s) (.int .i64 (lastV s)) u)) := hide (fun u V' hu => take_any base bs V' s i n cp (some ⟨bp, op, none⟩) u hu hn hr hst)
  have HO := hide h
  clear h hr
  go_enter Tryd.func47, Tryd.ntmps47
  go_upto_region 5 with fail
  generalize hwb : (w.alloc (.cells #[.pointer (some ⟨bs, 0, none⟩), .slice (some ⟨bp, op, none⟩) n cp] 87)).alloc (.cells #[.int .i64 1, .int .i64 a] 54) = wb
  have hkb : Kept w wb := by rw [← hwb]; exact ((Kept.refl w).alloc _).alloc _
  have lB : wb.heap[w.heap.size]? = some (.cells #[.pointer (some ⟨bs, 0, none⟩), .slice (some ⟨bp, op, none⟩) n cp] 87) := by rw [← hwb]; exact lays_alloc (lays_new rfl) _
  have lX : wb.heap[w.heap.size + 1]? = some (.cells #[.int .i64 1, .int .i64 a] 54) := by rw [← hwb]; exact lays_new (by simp)
  have b0 : wb.cell? ⟨w.heap.size, 0, none⟩ = some (.pointer (some ⟨bs, 0, none⟩)) := cell_lays lB 0
  have b1 : wb.cell? ⟨w.heap.size, 1, none⟩ = some (.slice (some ⟨bp, op, none⟩) n cp) := cell_lays lB 1
  have b2 : wb.cell? ⟨w.heap.size + 1, 1, none⟩ = some (.int .i64 a) := cell_lays lX 1
  have HKB := hide hkb
  have HLB := hide lB
  have HLX := hide lX
  clear hwb hkb lB lX
  go_wp2_with fail
  refine ((unhide HT) _ V ((unhide HO).kept (unhide HKB))).mono ?_
  rintro e w1 ⟨rfl, V1, hm⟩
  have HM := hide (hm.pre (unhide HO) (unhide HKB))
  clear hm
  go_wp2
  go_end0
  exact Or.inl ⟨rfl, rfl, V1, unhide HM⟩
set_option maxHeartbeats 8000000 in
set_option maxRecDepth 100000 in
theorem do_two4 (base bs : Nat) (V : Key → Value) (s : St) (i n cp bp op : Nat) (a : Int) (w : World) (h : OwnVar base w bs V s) (hn : s.now = i) (hr : Runs s i) (hst : 2 ≤ (frAt s i ((fibAt s i).frames.length - 1)).stack.length) :
    Calls Tryd.prog 47 #[eng bs (.slice (some ⟨bp, op, none⟩) n cp), .agg #[.int .i64 4, .int .i64 a]] w (EngPost base bs V s (pushV (pullV (pullV s)) i (reckonS 4 (lastV (pullV s)) (lastV s)), 0) w) := by
  have HT := hide (fun u V' (hu : OwnVar base u bs V' s) => reckon_any 70 4 (by decide) reckons4 base bs V' s i n cp (some ⟨bp, op, none⟩) u hu hn hr hst)
  have HO := hide h
  generalize pushV (pullV (pullV s)) i (reckonS 4 (lastV (pullV s)) (lastV s)) = s1 at *
  clear h hr
  go_enter Tryd.func47, Tryd.ntmps47
  go_upto_region 11 with fail
  generalize hwb : (w.alloc (.cells #[.pointer (some ⟨bs, 0, none⟩), .slice (some ⟨bp, op, none⟩) n cp] 87)).alloc (.cells #[.int .i64 4, .int .i64 a] 54) = wb
  have hkb : Kept w wb := by rw [← hwb]; exact ((Kept.refl w).alloc _).alloc _
  have lB : wb.heap[w.heap.size]? = some (.cells #[.pointer (some ⟨bs, 0, none⟩), .slice (some ⟨bp, op, none⟩) n cp] 87) := by rw [← hwb]; exact lays_alloc (lays_new rfl) _
  have lX : wb.heap[w.heap.size + 1]? = some (.cells #[.int .i64 4, .int .i64 a] 54) := by rw [← hwb]; exact lays_new (by simp)
  have b0 : wb.cell? ⟨w.heap.size, 0, none⟩ = some (.pointer (some ⟨bs, 0, none⟩)) := cell_lays lB 0
  have b1 : wb.cell? ⟨w.heap.size, 1, none⟩ = some (.slice (some ⟨bp, op, none⟩) n cp) := cell_lays lB 1
  have b2 : wb.cell? ⟨w.heap.size + 1, 1, none⟩ = some (.int .i64 a) := cell_lays lX 1
  have HKB := hide hkb
  have HLB := hide lB
  have HLX := hide lX
  clear hwb hkb lB lX
  go_wp2_with fail
  refine ((unhide HT) _ V ((unhide HO).kept (unhide HKB))).mono ?_
  rintro e w1 ⟨rfl, V1, hm⟩
  have HM := hide (hm.pre (unhide HO) (unhide HKB))
  clear hm
  go_wp2
  go_end0
  exact Or.inl ⟨rfl, rfl, V1, unhide HM⟩
set_option maxHeartbeats 8000000 in
set_option maxRecDepth 100000 in
theorem do_two5 (base bs : Nat) (V : Key → Value) (s : St) (i n cp bp op : Nat) (a : Int) (w : World) (h : OwnVar base w bs V s) (hn : s.now = i) (hr : Runs s i) (hst : 2 ≤ (frAt s i ((fibAt s i).frames.length - 1)).stack.length) :
    Calls Tryd.prog 47 #[eng bs (.slice (some ⟨bp, op, none⟩) n cp), .agg #[.int .i64 5, .int .i64 a]] w (EngPost base bs V s (pushV (pullV (pullV s)) i (reckonS 5 (lastV (pullV s)) (lastV s)), 0) w) := by
  have HT := hide (fun u V' (hu : OwnVar base u bs V' s) => reckon_any 71 5 (by decide) reckons5 base bs V' s i n cp (some ⟨bp, op, none⟩) u hu hn hr hst)
  have HO := hide h
  generalize pushV (pullV (pullV s)) i (reckonS 5 (lastV (pullV s)) (lastV s)) = s1 at *
  clear h hr
  go_enter Tryd.func47, Tryd.ntmps47
  go_upto_region 13 with fail
  generalize hwb : (w.alloc (.cells #[.pointer (some ⟨bs, 0, none⟩), .slice (some ⟨bp, op, none⟩) n cp] 87)).alloc (.cells #[.int .i64 5, .int .i64 a] 54) = wb
  have hkb : Kept w wb := by rw [← hwb]; exact ((Kept.refl w).alloc _).alloc _
  have lB : wb.heap[w.heap.size]? = some (.cells #[.pointer (some ⟨bs, 0, none⟩), .slice (some ⟨bp, op, none⟩) n cp] 87) := by rw [← hwb]; exact lays_alloc (lays_new rfl) _
  have lX : wb.heap[w.heap.size + 1]? = some (.cells #[.int .i64 5, .int .i64 a] 54) := by rw [← hwb]; exact lays_new (by simp)
  have b0 : wb.cell? ⟨w.heap.size, 0, none⟩ = some (.pointer (some ⟨bs, 0, none⟩)) := cell_lays lB 0
  have b1 : wb.cell? ⟨w.heap.size, 1, none⟩ = some (.slice (some ⟨bp, op, none⟩) n cp) := cell_lays lB 1
  have b2 : wb.cell? ⟨w.heap.size + 1, 1, none⟩ = some (.int .i64 a) := cell_lays lX 1
  have HKB := hide hkb
  have HLB := hide lB
  have HLX := hide lX
  clear hwb hkb lB lX
  go_wp2_with fail
  refine ((unhide HT) _ V ((unhide HO).kept (unhide HKB))).mono ?_
  rintro e w1 ⟨rfl, V1, hm⟩
  have HM := hide (hm.pre (unhide HO) (unhide HKB))
  clear hm
  go_wp2
  go_end0
  exact Or.inl ⟨rfl, rfl, V1, unhide HM⟩
set_option maxHeartbeats 8000000 in
set_option maxRecDepth 100000 in
theorem do_two6 (base bs : Nat) (V : Key → Value) (s : St) (i n cp bp op : Nat) (a : Int) (w : World) (h : OwnVar base w bs V s) (hn : s.now = i) (hr : Runs s i) (hst : 2 ≤ (frAt s i ((fibAt s i).frames.length - 1)).stack.length) :
    Calls Tryd.prog 47 #[eng bs (.slice (some ⟨bp, op, none⟩) n cp), .agg #[.int .i64 6, .int .i64 a]] w (EngPost base bs V s (pushV (pullV (pullV s)) i (reckonS 6 (lastV (pullV s)) (lastV s)), 0) w) := by
  have HT := hide (fun u V' (hu : OwnVar base u bs V' s) => reckon_any 72 6 (by decide) reckons6 base bs V' s i n cp (some ⟨bp, op, none⟩) u hu hn hr hst)
  have HO := hide h
  generalize pushV (pullV (pullV s)) i (reckonS 6 (lastV (pullV s)) (lastV s)) = s1 at *
  clear h hr
  go_enter Tryd.func47, Tryd.ntmps47
  go_upto_region 15 with fail
  generalize hwb : (w.alloc (.cells #[.pointer (some ⟨bs, 0, none⟩), .slice (some ⟨bp, op, none⟩) n cp] 87)).alloc (.cells #[.int .i64 6, .int .i64 a] 54) = wb
  have hkb : Kept w wb := by rw [← hwb]; exact ((Kept.refl w).alloc _).alloc _
  have lB : wb.heap[w.heap.size]? = some (.cells #[.pointer (some ⟨bs, 0, none⟩), .slice (some ⟨bp, op, none⟩) n cp] 87) := by rw [← hwb]; exact lays_alloc (lays_new rfl) _
  have lX : wb.heap[w.heap.size + 1]? = some (.cells #[.int .i64 6, .int .i64 a] 54) := by rw [← hwb]; exact lays_new (by simp)
  have b0 : wb.cell? ⟨w.heap.size, 0, none⟩ = some (.pointer (some ⟨bs, 0, none⟩)) := cell_lays lB 0
  have b1 : wb.cell? ⟨w.heap.size, 1, none⟩ = some (.slice (some ⟨bp, op, none⟩) n cp) := cell_lays lB 1
  have b2 : wb.cell? ⟨w.heap.size + 1, 1, none⟩ = some (.int .i64 a) := cell_lays lX 1
  have HKB := hide hkb
  have HLB := hide lB
  have HLX := hide lX
  clear hwb hkb lB lX
  go_wp2_with fail
  refine ((unhide HT) _ V ((unhide HO).kept (unhide HKB))).mono ?_
  rintro e w1 ⟨rfl, V1, hm⟩
  have HM := hide (hm.pre (unhide HO) (unhide HKB))
  clear hm
  go_wp2
  go_end0
  exact Or.inl ⟨rfl, rfl, V1, unhide HM⟩
set_option maxHeartbeats 8000000 in
set_option maxRecDepth 100000 in
theorem do_two7 (base bs : Nat) (V : Key → Value) (s : St) (i n cp bp op : Nat) (a : Int) (w : World) (h : OwnVar base w bs V s) (hn : s.now = i) (hr : Runs s i) (hst : 2 ≤ (frAt s i ((fibAt s i).frames.length - 1)).stack.length) :
    Calls Tryd.prog 47 #[eng bs (.slice (some ⟨bp, op, none⟩) n cp), .agg #[.int .i64 7, .int .i64 a]] w (EngPost base bs V s (pushV (pullV (pullV s)) i (reckonS 7 (lastV (pullV s)) (lastV s)), 0) w) := by
  have HT := hide (fun u V' (hu : OwnVar base u bs V' s) => reckon_any 73 7 (by decide) reckons7 base bs V' s i n cp (some ⟨bp, op, none⟩) u hu hn hr hst)
  have HO := hide h
  generalize pushV (pullV (pullV s)) i (reckonS 7 (lastV (pullV s)) (lastV s)) = s1 at *
  clear h hr
  go_enter Tryd.func47, Tryd.ntmps47
  go_upto_region 17 with fail
  generalize hwb : (w.alloc (.cells #[.pointer (some ⟨bs, 0, none⟩), .slice (some ⟨bp, op, none⟩) n cp] 87)).alloc (.cells #[.int .i64 7, .int .i64 a] 54) = wb
  have hkb : Kept w wb := by rw [← hwb]; exact ((Kept.refl w).alloc _).alloc _
  have lB : wb.heap[w.heap.size]? = some (.cells #[.pointer (some ⟨bs, 0, none⟩), .slice (some ⟨bp, op, none⟩) n cp] 87) := by rw [← hwb]; exact lays_alloc (lays_new rfl) _
  have lX : wb.heap[w.heap.size + 1]? = some (.cells #[.int .i64 7, .int .i64 a] 54) := by rw [← hwb]; exact lays_new (by simp)
  have b0 : wb.cell? ⟨w.heap.size, 0, none⟩ = some (.pointer (some ⟨bs, 0, none⟩)) := cell_lays lB 0
  have b1 : wb.cell? ⟨w.heap.size, 1, none⟩ = some (.slice (some ⟨bp, op, none⟩) n cp) := cell_lays lB 1
  have b2 : wb.cell? ⟨w.heap.size + 1, 1, none⟩ = some (.int .i64 a) := cell_lays lX 1
  have HKB := hide hkb
  have HLB := hide lB
  have HLX := hide lX
  clear hwb hkb lB lX
  go_wp2_with fail
  refine ((unhide HT) _ V ((unhide HO).kept (unhide HKB))).mono ?_
  rintro e w1 ⟨rfl, V1, hm⟩
  have HM := hide (hm.pre (unhide HO) (unhide HKB))
  clear hm
  go_wp2
  go_end0
  exact Or.inl ⟨rfl, rfl, V1, unhide HM⟩
set_option maxHeartbeats 8000000 in
set_option maxRecDepth 100000 in
theorem do_two8 (base bs : Nat) (V : Key → Value) (s : St) (i n cp bp op : Nat) (a : Int) (w : World) (h : OwnVar base w bs V s) (hn : s.now = i) (hr : Runs s i) (hst : 2 ≤ (frAt s i ((fibAt s i).frames.length - 1)).stack.length) :
    Calls Tryd.prog 47 #[eng bs (.slice (some ⟨bp, op, none⟩) n cp), .agg #[.int .i64 8, .int .i64 a]] w (EngPost base bs V s (pushV (pullV (pullV s)) i (reckonS 8 (lastV (pullV s)) (lastV s)), 0) w) := by
  have HT := hide (fun u V' (hu : OwnVar base u bs V' s) => reckon_any 75 8 (by decide) reckons8 base bs V' s i n cp (some ⟨bp, op, none⟩) u hu hn hr hst)
  have HO := hide h
  generalize pushV (pullV (pullV s)) i (reckonS 8 (lastV (pullV s)) (lastV s)) = s1 at *
  clear h hr
  go_enter Tryd.func47, Tryd.ntmps47
  go_upto_region 19 with fail
  generalize hwb : (w.alloc (.cells #[.pointer (some ⟨bs, 0, none⟩), .slice (some ⟨bp, op, none⟩) n cp] 87)).alloc (.cells #[.int .i64 8, .int .i64 a] 54) = wb
  have hkb : Kept w wb := by rw [← hwb]; exact ((Kept.refl w).alloc _).alloc _
  have lB : wb.heap[w.heap.size]? = some (.cells #[.pointer (some ⟨bs, 0, none⟩), .slice (some ⟨bp, op, none⟩) n cp] 87) := by rw [← hwb]; exact lays_alloc (lays_new rfl) _
  have lX : wb.heap[w.heap.size + 1]? = some (.cells #[.int .i64 8, .int .i64 a] 54) := by rw [← hwb]; exact lays_new (by simp)
  have b0 : wb.cell? ⟨w.heap.size, 0, none⟩ = some (.pointer (some ⟨bs, 0, none⟩)) := cell_lays lB 0
  have b1 : wb.cell? ⟨w.heap.size, 1, none⟩ = some (.slice (some ⟨bp, op, none⟩) n cp) := cell_lays lB 1
  have b2 : wb.cell? ⟨w.heap.size + 1, 1, none⟩ = some (.int .i64 a) := cell_lays lX 1
  have HKB := hide hkb
  have HLB := hide lB
  have HLX := hide lX
  clear hwb hkb lB lX
  go_wp2_with fail
  refine ((unhide HT) _ V ((unhide HO).kept (unhide HKB))).mono ?_
  rintro e w1 ⟨rfl, V1, hm⟩
  have HM := hide (hm.pre (unhide HO) (unhide HKB))
  clear hm
  go_wp2
  go_end0
  exact Or.inl ⟨rfl, rfl, V1, unhide HM⟩
set_option maxHeartbeats 8000000 in
set_option maxRecDepth 100000 in
theorem do_call (base bs : Nat) (V : Key → Value) (s : St) (i n cp bp op : Nat) (a : Int) (w : World) (h : OwnVar base w bs V s) (hn : s.now = i) (hr : Runs s i) (f a2 lo : Nat) (haf : a = f) (h6 : (fibAt s i).frames.length ≤ 6) (hf : f < n) (hlo : lo ≤ 1000) (hal : a2 ≤ lo) (ha : a2 ≤ (frAt s i ((fibAt s i).frames.length - 1)).stack.length)
    (hp : ∀ u, Below base w u → u.cell? ⟨bp, op + f * 3, none⟩ = some (.int .i64 a2) ∧ u.cell? ⟨bp, op + f * 3 + 1, none⟩ = some (.int .i64 lo)) :
    Calls Tryd.prog 47 #[eng bs (.slice (some ⟨bp, op, none⟩) n cp), .agg #[.int .i64 11, .int .i64 a]] w (EngPost base bs V s (callS s i f a2 lo) w) := by
  have HT := hide (fun u (hu : Kept w u) => call_any base bs V s i n cp bp op f a2 lo u (h.kept hu) hn hr h6 hf hlo hal ha (fun u' hb => hp u' (Below.trans (h.below hu) hb)))
  have HO := hide h
  generalize callS s i f a2 lo = R at *
  subst haf
  clear h hr hp
  go_enter Tryd.func47, Tryd.ntmps47
  go_upto_region 26 with fail
  generalize hwb : (w.alloc (.cells #[.pointer (some ⟨bs, 0, none⟩), .slice (some ⟨bp, op, none⟩) n cp] 87)).alloc (.cells #[.int .i64 11, .int .i64 f] 54) = wb
  have hkb : Kept w wb := by rw [← hwb]; exact ((Kept.refl w).alloc _).alloc _
  have lB : wb.heap[w.heap.size]? = some (.cells #[.pointer (some ⟨bs, 0, none⟩), .slice (some ⟨bp, op, none⟩) n cp] 87) := by rw [← hwb]; exact lays_alloc (lays_new rfl) _
  have lX : wb.heap[w.heap.size + 1]? = some (.cells #[.int .i64 11, .int .i64 f] 54) := by rw [← hwb]; exact lays_new (by simp)
  have b0 : wb.cell? ⟨w.heap.size, 0, none⟩ = some (.pointer (some ⟨bs, 0, none⟩)) := cell_lays lB 0
  have b1 : wb.cell? ⟨w.heap.size, 1, none⟩ = some (.slice (some ⟨bp, op, none⟩) n cp) := cell_lays lB 1
  have b2 : wb.cell? ⟨w.heap.size + 1, 1, none⟩ = some (.int .i64 f) := cell_lays lX 1
  have HKB := hide hkb
  have HLB := hide lB
  have HLX := hide lX
  clear hwb hkb lB lX
  go_wp2_with fail
  refine ((unhide HT) _ (unhide HKB)).mono ?_
  intro e w1 hp
  have hp' := hp.pre (unhide HO) (Moved.of_kept (unhide HO) (unhide HKB))
  have HP := hide hp'
  rcases hp with ⟨_, rfl, _⟩ | ⟨_, rfl, _⟩
  · clear hp'
    go_wp2
    go_end0
    exact unhide HP
  · clear hp'
    dsimp only [left]
    go_wp2
    exact ⟨rfl, unhide HP⟩
set_option maxHeartbeats 8000000 in
set_option maxRecDepth 100000 in
theorem do_make (base bs : Nat) (V : Key → Value) (s : St) (i n cp bp op : Nat) (a : Int) (w : World) (h : OwnVar base w bs V s) (hn : s.now = i) (hr : Runs s i) (f lo : Nat) (haf : a = f) (h5 : s.fibers.length ≤ 5) (hf : f < n) (hlo : lo ≤ 1000) (hp : ∀ u, Below base w u → u.cell? ⟨bp, op + f * 3 + 1, none⟩ = some (.int .i64 lo)) :
    Calls Tryd.prog 47 #[eng bs (.slice (some ⟨bp, op, none⟩) n cp), .agg #[.int .i64 13, .int .i64 a]] w (EngPost base bs V s (makeS s i f lo) w) := by
  have HT := hide (fun u (hu : Kept w u) => makeFiber_any base bs V s i n cp bp op f lo u (h.kept hu) hn hr h5 hf hlo (fun u' hb => hp u' (Below.trans (h.below hu) hb)))
  have HO := hide h
  generalize makeS s i f lo = R at *
  subst haf
  clear h hr hp
  go_enter Tryd.func47, Tryd.ntmps47
  go_upto_region 30 with fail
  generalize hwb : (w.alloc (.cells #[.pointer (some ⟨bs, 0, none⟩), .slice (some ⟨bp, op, none⟩) n cp] 87)).alloc (.cells #[.int .i64 13, .int .i64 f] 54) = wb
  have hkb : Kept w wb := by rw [← hwb]; exact ((Kept.refl w).alloc _).alloc _
  have lB : wb.heap[w.heap.size]? = some (.cells #[.pointer (some ⟨bs, 0, none⟩), .slice (some ⟨bp, op, none⟩) n cp] 87) := by rw [← hwb]; exact lays_alloc (lays_new rfl) _
  have lX : wb.heap[w.heap.size + 1]? = some (.cells #[.int .i64 13, .int .i64 f] 54) := by rw [← hwb]; exact lays_new (by simp)
  have b0 : wb.cell? ⟨w.heap.size, 0, none⟩ = some (.pointer (some ⟨bs, 0, none⟩)) := cell_lays lB 0
  have b1 : wb.cell? ⟨w.heap.size, 1, none⟩ = some (.slice (some ⟨bp, op, none⟩) n cp) := cell_lays lB 1
  have b2 : wb.cell? ⟨w.heap.size + 1, 1, none⟩ = some (.int .i64 f) := cell_lays lX 1
  have HKB := hide hkb
  have HLB := hide lB
  have HLX := hide lX
  clear hwb hkb lB lX
  go_wp2_with fail
  refine ((unhide HT) _ (unhide HKB)).mono ?_
  intro e w1 hp
  have hp' := hp.pre (unhide HO) (Moved.of_kept (unhide HO) (unhide HKB))
  have HP := hide hp'
  rcases hp with ⟨_, rfl, _⟩ | ⟨_, rfl, _⟩
  · clear hp'
    go_wp2
    go_end0
    exact unhide HP
  · clear hp'
    dsimp only [left]
    go_wp2
    exact ⟨rfl, unhide HP⟩
end Go.Proofs.YtlapliclhfpgkaaDoor
