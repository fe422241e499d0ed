/- EngO -/
import Derived.Test.YtlapliclhfpgkaaDoorRB28
namespace Go.Proofs.YtlapliclhfpgkaaDoor
open Go.RowKit
set_option maxHeartbeats 8000000 in
set_option maxRecDepth 100000 in
theorem do_return (base bs : Nat) (V : Key → Value) (s : St) (i n cp bp op : Nat) (a : Int) (w : World) (h : OwnVar base w bs V s) (hn : s.now = i) (hr : Runs s i) (hst : 0 < (frAt s i ((fibAt s i).frames.length - 1)).stack.length) (hout : s.out.length ≤ 30) (hr1 : Runs (pullV s) i) (hc1 : (fibAt (pullV s) i).frames.length = 1 → (fibAt (pullV s) i).caller ≠ -1 → ∃ m : Nat, (fibAt (pullV s) i).caller = m ∧ m ≠ i ∧ Runs (pullV s) m) (hc2 : (fibAt (pullV s) i).frames.length ≠ 1 → Runs (dropped (pullV s) i) i) :
    Calls Tryd.prog 47 #[eng bs (.slice (some ⟨bp, op, none⟩) n cp), .agg #[.int .i64 12, .int .i64 a]] w (EngPost base bs V s (gaveBack (pullV s) i (lastV s)) w) := by
  have HT : Hid (∀ u V', OwnVar base u bs V' s → Calls Tryd.prog 67 #[eng bs (.slice (some ⟨bp, op, none⟩) n cp)] u (OnePost base bs V' s (pullV s) (.int .i64 (lastV s)) u)) := hide (fun u V' hu => take_any base bs V' s i n cp (some ⟨bp, op, none⟩) u hu hn hr hst)
  have HC : Hid (∀ u V', OwnVar base u bs V' (pullV s) → Calls Tryd.prog 77 #[eng bs (.slice (some ⟨bp, op, none⟩) n cp), .int .i64 (lastV s)] u (EngPost base bs V' (pullV s) (gaveBack (pullV s) i (lastV s)) u)) := hide (fun u V' hu => giveBack_any base bs V' (pullV s) i n cp (some ⟨bp, op, none⟩) (lastV s) u hu hn hr1 hout hc1 hc2)
  have HO := hide h
  generalize gaveBack (pullV s) i (lastV s) = R at *
  generalize pullV s = s1 at *
  generalize lastV s = z at *
  clear h hr
  go_enter Tryd.func47, Tryd.ntmps47
  go_upto_region 28 with fail
  generalize hwb : (w.alloc (.cells #[.pointer (some ⟨bs, 0, none⟩), .slice (some ⟨bp, op, none⟩) n cp] 87)).alloc (.cells #[.int .i64 12, .int .i64 a] 54) = wb
  have hkb : Kept w wb := by rw [← hwb]; exact ((Kept.refl w).alloc _).alloc _
  have lB : wb.heap[w.heap.size]? = some (.cells #[.pointer (some ⟨bs, 0, none⟩), .slice (some ⟨bp, op, none⟩) n cp] 87) := by rw [← hwb]; exact lays_alloc (lays_new rfl) _
  have lX : wb.heap[w.heap.size + 1]? = some (.cells #[.int .i64 12, .int .i64 a] 54) := by rw [← hwb]; exact lays_new (by simp)
  have b0 : wb.cell? ⟨w.heap.size, 0, none⟩ = some (.pointer (some ⟨bs, 0, none⟩)) := cell_lays lB 0
  have b1 : wb.cell? ⟨w.heap.size, 1, none⟩ = some (.slice (some ⟨bp, op, none⟩) n cp) := cell_lays lB 1
  have b2 : wb.cell? ⟨w.heap.size + 1, 1, none⟩ = some (.int .i64 a) := cell_lays lX 1
  have HKB := hide hkb
  have HLB := hide lB
  have HLX := hide lX
  clear hwb hkb lB lX
  obtain ⟨hBn, hBo⟩ := (unhide HO).new (b := w.heap.size) (by omega)
  have HD := hide ((Moved.of_kept (unhide HO) (unhide HKB)).drew)
  refine wp_regionP 3 [0, 1] (fun u => u.cell? ⟨w.heap.size, 0, none⟩ = some (.pointer (some ⟨bs, 0, none⟩)) ∧ u.cell? ⟨w.heap.size, 1, none⟩ = some (.slice (some ⟨bp, op, none⟩) n cp)) (by kernel_rfl) ?_
  have hHeld := And.intro b0 b1
  repeat
    refine takeP (v := ?_) hHeld (fun u hSu => ?_) ?_
    rotate_left
    · ((try dsimp only at hSu); go_simp) <;> with_reducible rfl
    try simp only [Act.put, List.setIfInBounds_toArray, List.set_cons_zero, List.set_cons_succ]
  refine takeP_end ?_
  refine takeT_one (i := 2) rfl (by kernel_rfl) (fun K hK => ?_)
  go_simp
  refine ((unhide HT) _ V (unhide HD).own).mono ?_
  rintro e w1 ⟨rfl, V1, hm⟩
  have l1 := hm.lays (lays_drew (unhide HLB)) hBn hBo
  have HM1 := hide ((unhide HD).trans hm)
  refine hK.out _ _ (fun _ => ⟨cell_lays l1 0, cell_lays l1 1⟩) ?_
  clear hK K hm l1
  try simp only [Act.put, List.setIfInBounds_toArray, List.set_cons_zero, List.set_cons_succ]
  refine takeT_one (i := 3) rfl (by kernel_rfl) (fun K hK => ?_)
  go_simp
  refine ((unhide HC) _ V1 (unhide HM1).own).mono ?_
  intro e w2 hp
  have hp' := hp.pre (unhide HO) (unhide HM1)
  have HP := hide hp'
  rcases hp with ⟨_, rfl, _⟩ | ⟨_, rfl, _⟩
  · refine hK.out _ _ (fun h => absurd rfl h) ?_
    clear hK K hp'
    refine takeT_done (by kernel_rfl) ?_ _
    go_wp2
    go_end0
    exact unhide HP
  · clear hp'
    dsimp only [left]
    exact ⟨rfl, unhide HP⟩
set_option maxHeartbeats 8000000 in
set_option maxRecDepth 100000 in
theorem do_yield (base bs : Nat) (V : Key → Value) (s : St) (i n cp bp op : Nat) (a : Int) (w : World) (h : OwnVar base w bs V s) (hn : s.now = i) (hr : Runs s i) (hst : 0 < (frAt s i ((fibAt s i).frames.length - 1)).stack.length) (hi1 : i < (pullV s).fibers.length) (hc : (fibAt (pullV s) i).caller ≠ -1 → ∃ m : Nat, (fibAt (pullV s) i).caller = m ∧ m ≠ i ∧ Runs (pullV s) m) :
    Calls Tryd.prog 47 #[eng bs (.slice (some ⟨bp, op, none⟩) n cp), .agg #[.int .i64 15, .int .i64 a]] w (EngPost base bs V s (yieldS (pullV s) i (lastV s)) w) := by
  have HT : Hid (∀ u V', OwnVar base u bs V' s → Calls Tryd.prog 67 #[eng bs (.slice (some ⟨bp, op, none⟩) n cp)] u (OnePost base bs V' s (pullV s) (.int .i64 (lastV s)) u)) := hide (fun u V' hu => take_any base bs V' s i n cp (some ⟨bp, op, none⟩) u hu hn hr hst)
  have HC : Hid (∀ u V', OwnVar base u bs V' (pullV s) → Calls Tryd.prog 80 #[eng bs (.slice (some ⟨bp, op, none⟩) n cp), .int .i64 (lastV s)] u (EngPost base bs V' (pullV s) (yieldS (pullV s) i (lastV s)) u)) := hide (fun u V' hu => yield_any base bs V' (pullV s) i n cp (some ⟨bp, op, none⟩) (lastV s) u hu hn hi1 hc)
  have HO := hide h
  generalize yieldS (pullV s) i (lastV s) = R at *
  generalize pullV s = s1 at *
  generalize lastV s = z at *
  clear h hr
  go_enter Tryd.func47, Tryd.ntmps47
  go_upto_region 35 with fail
  generalize hwb : (w.alloc (.cells #[.pointer (some ⟨bs, 0, none⟩), .slice (some ⟨bp, op, none⟩) n cp] 87)).alloc (.cells #[.int .i64 15, .int .i64 a] 54) = wb
  have hkb : Kept w wb := by rw [← hwb]; exact ((Kept.refl w).alloc _).alloc _
  have lB : wb.heap[w.heap.size]? = some (.cells #[.pointer (some ⟨bs, 0, none⟩), .slice (some ⟨bp, op, none⟩) n cp] 87) := by rw [← hwb]; exact lays_alloc (lays_new rfl) _
  have lX : wb.heap[w.heap.size + 1]? = some (.cells #[.int .i64 15, .int .i64 a] 54) := by rw [← hwb]; exact lays_new (by simp)
  have b0 : wb.cell? ⟨w.heap.size, 0, none⟩ = some (.pointer (some ⟨bs, 0, none⟩)) := cell_lays lB 0
  have b1 : wb.cell? ⟨w.heap.size, 1, none⟩ = some (.slice (some ⟨bp, op, none⟩) n cp) := cell_lays lB 1
  have b2 : wb.cell? ⟨w.heap.size + 1, 1, none⟩ = some (.int .i64 a) := cell_lays lX 1
  have HKB := hide hkb
  have HLB := hide lB
  have HLX := hide lX
  clear hwb hkb lB lX
  obtain ⟨hBn, hBo⟩ := (unhide HO).new (b := w.heap.size) (by omega)
  have HD := hide ((Moved.of_kept (unhide HO) (unhide HKB)).drew)
  refine wp_regionP 3 [0, 1] (fun u => u.cell? ⟨w.heap.size, 0, none⟩ = some (.pointer (some ⟨bs, 0, none⟩)) ∧ u.cell? ⟨w.heap.size, 1, none⟩ = some (.slice (some ⟨bp, op, none⟩) n cp)) (by kernel_rfl) ?_
  have hHeld := And.intro b0 b1
  repeat
    refine takeP (v := ?_) hHeld (fun u hSu => ?_) ?_
    rotate_left
    · ((try dsimp only at hSu); go_simp) <;> with_reducible rfl
    try simp only [Act.put, List.setIfInBounds_toArray, List.set_cons_zero, List.set_cons_succ]
  refine takeP_end ?_
  refine takeT_one (i := 2) rfl (by kernel_rfl) (fun K hK => ?_)
  go_simp
  refine ((unhide HT) _ V (unhide HD).own).mono ?_
  rintro e w1 ⟨rfl, V1, hm⟩
  have l1 := hm.lays (lays_drew (unhide HLB)) hBn hBo
  have HM1 := hide ((unhide HD).trans hm)
  refine hK.out _ _ (fun _ => ⟨cell_lays l1 0, cell_lays l1 1⟩) ?_
  clear hK K hm l1
  try simp only [Act.put, List.setIfInBounds_toArray, List.set_cons_zero, List.set_cons_succ]
  refine takeT_one (i := 3) rfl (by kernel_rfl) (fun K hK => ?_)
  go_simp
  refine ((unhide HC) _ V1 (unhide HM1).own).mono ?_
  intro e w2 hp
  have hp' := hp.pre (unhide HO) (unhide HM1)
  have HP := hide hp'
  rcases hp with ⟨_, rfl, _⟩ | ⟨_, rfl, _⟩
  · refine hK.out _ _ (fun h => absurd rfl h) ?_
    clear hK K hp'
    refine takeT_done (by kernel_rfl) ?_ _
    go_wp2
    go_end0
    exact unhide HP
  · clear hp'
    dsimp only [left]
    exact ⟨rfl, unhide HP⟩
set_option maxHeartbeats 8000000 in
set_option maxRecDepth 100000 in
theorem do_put (base bs : Nat) (V : Key → Value) (s : St) (i n cp bp op : Nat) (a : Int) (w : World) (h : OwnVar base w bs V s) (hn : s.now = i) (hr : Runs s i) (hst : 0 < (frAt s i ((fibAt s i).frames.length - 1)).stack.length) (hout : s.out.length ≤ 30) :
    Calls Tryd.prog 47 #[eng bs (.slice (some ⟨bp, op, none⟩) n cp), .agg #[.int .i64 16, .int .i64 a]] w (EngPost base bs V s (putS (pullV s) (lastV s)) w) := by
  have HT : Hid (∀ u V', OwnVar base u bs V' s → Calls Tryd.prog 67 #[eng bs (.slice (some ⟨bp, op, none⟩) n cp)] u (OnePost base bs V' s (pullV s) (.int .i64 (lastV s)) u)) := hide (fun u V' hu => take_any base bs V' s i n cp (some ⟨bp, op, none⟩) u hu hn hr hst)
  have HC : Hid (∀ u V', OwnVar base u bs V' (pullV s) → Calls Tryd.prog 81 #[eng bs (.slice (some ⟨bp, op, none⟩) n cp), .int .i64 (lastV s)] u (EngPost base bs V' (pullV s) (putS (pullV s) (lastV s)) u)) := hide (fun u V' hu => putOut_any base bs V' (pullV s) n cp (some ⟨bp, op, none⟩) (lastV s) u hu hout)
  have HO := hide h
  generalize putS (pullV s) (lastV s) = R at *
  generalize pullV s = s1 at *
  generalize lastV s = z at *
  clear h hr
  go_enter Tryd.func47, Tryd.ntmps47
  go_upto_region 37 with fail
  generalize hwb : (w.alloc (.cells #[.pointer (some ⟨bs, 0, none⟩), .slice (some ⟨bp, op, none⟩) n cp] 87)).alloc (.cells #[.int .i64 16, .int .i64 a] 54) = wb
  have hkb : Kept w wb := by rw [← hwb]; exact ((Kept.refl w).alloc _).alloc _
  have lB : wb.heap[w.heap.size]? = some (.cells #[.pointer (some ⟨bs, 0, none⟩), .slice (some ⟨bp, op, none⟩) n cp] 87) := by rw [← hwb]; exact lays_alloc (lays_new rfl) _
  have lX : wb.heap[w.heap.size + 1]? = some (.cells #[.int .i64 16, .int .i64 a] 54) := by rw [← hwb]; exact lays_new (by simp)
  have b0 : wb.cell? ⟨w.heap.size, 0, none⟩ = some (.pointer (some ⟨bs, 0, none⟩)) := cell_lays lB 0
  have b1 : wb.cell? ⟨w.heap.size, 1, none⟩ = some (.slice (some ⟨bp, op, none⟩) n cp) := cell_lays lB 1
  have b2 : wb.cell? ⟨w.heap.size + 1, 1, none⟩ = some (.int .i64 a) := cell_lays lX 1
  have HKB := hide hkb
  have HLB := hide lB
  have HLX := hide lX
  clear hwb hkb lB lX
  obtain ⟨hBn, hBo⟩ := (unhide HO).new (b := w.heap.size) (by omega)
  have HD := hide ((Moved.of_kept (unhide HO) (unhide HKB)).drew)
  refine wp_regionP 3 [0, 1] (fun u => u.cell? ⟨w.heap.size, 0, none⟩ = some (.pointer (some ⟨bs, 0, none⟩)) ∧ u.cell? ⟨w.heap.size, 1, none⟩ = some (.slice (some ⟨bp, op, none⟩) n cp)) (by kernel_rfl) ?_
  have hHeld := And.intro b0 b1
  repeat
    refine takeP (v := ?_) hHeld (fun u hSu => ?_) ?_
    rotate_left
    · ((try dsimp only at hSu); go_simp) <;> with_reducible rfl
    try simp only [Act.put, List.setIfInBounds_toArray, List.set_cons_zero, List.set_cons_succ]
  refine takeP_end ?_
  refine takeT_one (i := 2) rfl (by kernel_rfl) (fun K hK => ?_)
  go_simp
  refine ((unhide HT) _ V (unhide HD).own).mono ?_
  rintro e w1 ⟨rfl, V1, hm⟩
  have l1 := hm.lays (lays_drew (unhide HLB)) hBn hBo
  have HM1 := hide ((unhide HD).trans hm)
  refine hK.out _ _ (fun _ => ⟨cell_lays l1 0, cell_lays l1 1⟩) ?_
  clear hK K hm l1
  try simp only [Act.put, List.setIfInBounds_toArray, List.set_cons_zero, List.set_cons_succ]
  refine takeT_one (i := 3) rfl (by kernel_rfl) (fun K hK => ?_)
  go_simp
  refine ((unhide HC) _ V1 (unhide HM1).own).mono ?_
  intro e w2 hp
  have hp' := hp.pre (unhide HO) (unhide HM1)
  have HP := hide hp'
  rcases hp with ⟨_, rfl, _⟩ | ⟨_, rfl, _⟩
  · refine hK.out _ _ (fun h => absurd rfl h) ?_
    clear hK K hp'
    refine takeT_done (by kernel_rfl) ?_ _
    go_wp2
    go_end0
    exact unhide HP
  · clear hp'
    dsimp only [left]
    exact ⟨rfl, unhide HP⟩
set_option maxHeartbeats 8000000 in
set_option maxRecDepth 100000 in
theorem do_resume (base bs : Nat) (V : Key → Value) (s : St) (i n cp bp op : Nat) (a : Int) (w : World) (h : OwnVar base w bs V s) (hn : s.now = i) (hr : Runs s i) (hst : 2 ≤ (frAt s i ((fibAt s i).frames.length - 1)).stack.length) (hall : ∀ u V', OwnVar base u bs V' (pullV (pullV s)) → Calls Tryd.prog 79 #[eng bs (.slice (some ⟨bp, op, none⟩) n cp), .int .i64 (lastV (pullV s)), .int .i64 (lastV s)] u (EngPost base bs V' (pullV (pullV s)) (resumeS (pullV (pullV s)) i (lastV (pullV s)) (lastV s)) u)) :
    Calls Tryd.prog 47 #[eng bs (.slice (some ⟨bp, op, none⟩) n cp), .agg #[.int .i64 14, .int .i64 a]] w (EngPost base bs V s (resumeS (pullV (pullV s)) i (lastV (pullV s)) (lastV s)) w) := by
  obtain ⟨hn1, hr1, hs1⟩ := pull_runs hn hr
  have HT : Hid (∀ u V', OwnVar base u bs V' s → Calls Tryd.prog 67 #[eng bs (.slice (some ⟨bp, op, none⟩) n cp)] u (OnePost base bs V' s (pullV s) (.int .i64 (lastV s)) u)) := hide (fun u V' hu => take_any base bs V' s i n cp (some ⟨bp, op, none⟩) u hu hn hr (by omega))
  have HT2 : Hid (∀ u V', OwnVar base u bs V' (pullV s) → Calls Tryd.prog 67 #[eng bs (.slice (some ⟨bp, op, none⟩) n cp)] u (OnePost base bs V' (pullV s) (pullV (pullV s)) (.int .i64 (lastV (pullV s))) u)) := hide (fun u V' hu => take_any base bs V' (pullV s) i n cp (some ⟨bp, op, none⟩) u hu hn1 hr1 (by rw [hs1]; simp; omega))
  have HC := hide hall
  have HO := hide h
  generalize resumeS (pullV (pullV s)) i (lastV (pullV s)) (lastV s) = R at *
  generalize lastV s = z at *
  generalize hs1' : pullV s = s1 at *
  generalize pullV s1 = s2 at *
  generalize lastV s1 = x at *
  clear h hr hr1 hs1 hn1 hall hs1'
  go_enter Tryd.func47, Tryd.ntmps47
  go_upto_region 32 with fail
  generalize hwb : (w.alloc (.cells #[.pointer (some ⟨bs, 0, none⟩), .slice (some ⟨bp, op, none⟩) n cp] 87)).alloc (.cells #[.int .i64 14, .int .i64 a] 54) = wb
  have hkb : Kept w wb := by rw [← hwb]; exact ((Kept.refl w).alloc _).alloc _
  have lB : wb.heap[w.heap.size]? = some (.cells #[.pointer (some ⟨bs, 0, none⟩), .slice (some ⟨bp, op, none⟩) n cp] 87) := by rw [← hwb]; exact lays_alloc (lays_new rfl) _
  have lX : wb.heap[w.heap.size + 1]? = some (.cells #[.int .i64 14, .int .i64 a] 54) := by rw [← hwb]; exact lays_new (by simp)
  have b0 : wb.cell? ⟨w.heap.size, 0, none⟩ = some (.pointer (some ⟨bs, 0, none⟩)) := cell_lays lB 0
  have b1 : wb.cell? ⟨w.heap.size, 1, none⟩ = some (.slice (some ⟨bp, op, none⟩) n cp) := cell_lays lB 1
  have b2 : wb.cell? ⟨w.heap.size + 1, 1, none⟩ = some (.int .i64 a) := cell_lays lX 1
  have HKB := hide hkb
  have HLB := hide lB
  have HLX := hide lX
  clear hwb hkb lB lX
  obtain ⟨hBn, hBo⟩ := (unhide HO).new (b := w.heap.size) (by omega)
  have HD := hide (Moved.of_kept (unhide HO) (unhide HKB))
  go_wp2_with fail
  refine ((unhide HT) _ V (unhide HD).own).mono ?_
  rintro e w0 ⟨rfl, V0, hm⟩
  have l0 := hm.lays (unhide HLB) hBn hBo
  have HL0 := hide l0
  have HB0 := hide (hm.off _ (Array.getElem?_eq_some_iff.1 (unhide HLB)).1 hBo)
  have c0 : w0.cell? ⟨w.heap.size, 0, none⟩ = some (.pointer (some ⟨bs, 0, none⟩)) := cell_lays l0 0
  have c1 : w0.cell? ⟨w.heap.size, 1, none⟩ = some (.slice (some ⟨bp, op, none⟩) n cp) := cell_lays l0 1
  have HM0 := hide (((unhide HD).trans hm).drew)
  clear hm l0 b0 b1 b2
  go_upto_region 33 with fail
  refine wp_regionP 4 [0, 1, 3] (fun u => u.cell? ⟨w.heap.size, 0, none⟩ = some (.pointer (some ⟨bs, 0, none⟩)) ∧ u.cell? ⟨w.heap.size, 1, none⟩ = some (.slice (some ⟨bp, op, none⟩) n cp)) (by kernel_rfl) ?_
  have hHeld := And.intro c0 c1
  repeat
    refine takeP (v := ?_) hHeld (fun u hSu => ?_) ?_
    rotate_left
    · ((try dsimp only at hSu); go_simp) <;> with_reducible rfl
    try simp only [Act.put, List.setIfInBounds_toArray, List.set_cons_zero, List.set_cons_succ]
  refine takeP_end ?_
  refine takeT_one (i := 2) rfl (by kernel_rfl) (fun K hK => ?_)
  go_simp
  refine ((unhide HT2) _ V0 (unhide HM0).own).mono ?_
  rintro e w1 ⟨rfl, V1, hm⟩
  have l1 := hm.lays (lays_drew (unhide HL0)) hBn (unhide HB0)
  have HM1 := hide ((unhide HM0).trans hm)
  refine hK.out _ _ (fun _ => ⟨cell_lays l1 0, cell_lays l1 1⟩) ?_
  clear hK K hm l1
  try simp only [Act.put, List.setIfInBounds_toArray, List.set_cons_zero, List.set_cons_succ]
  refine takeT_one (i := 4) rfl (by kernel_rfl) (fun K hK => ?_)
  go_simp
  refine ((unhide HC) _ V1 (unhide HM1).own).mono ?_
  intro e w2 hp
  have hp' := hp.pre (unhide HO) (unhide HM1)
  have HP := hide hp'
  rcases hp with ⟨_, rfl, _⟩ | ⟨_, rfl, _⟩
  · refine hK.out _ _ (fun h => absurd rfl h) ?_
    clear hK K hp'
    refine takeT_done (by kernel_rfl) ?_ _
    go_wp2
    go_end0
    exact unhide HP
  · clear hp'
    dsimp only [left]
    exact ⟨rfl, unhide HP⟩
end Go.Proofs.YtlapliclhfpgkaaDoor
