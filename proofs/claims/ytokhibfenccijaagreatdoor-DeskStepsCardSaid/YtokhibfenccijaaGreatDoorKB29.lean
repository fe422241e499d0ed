/- EngO, EngP -/
import Derived.Test.YtokhibfenccijaaGreatDoorKB28
set_option maxRecDepth 100000
set_option maxHeartbeats 8000000
namespace Go.Proofs.YtokhibfenccijaaGreatDoor
open Go.RowKit
theorem do_return (base bs : Nat) (V : Key → Value) (s : St) (i n cp bp op : Nat) (a : Int) (w : World) (h : OwnVar base w bs V s) (hn : s.now = i) (hr : Runs s i) (hst : 0 < (frAt s i ((fibAt s i).frames.length - 1)).stack.length) (hout : s.out.length ≤ 30) (hr1 : Runs (pullV s) i) (hc1 : (fibAt (pullV s) i).frames.length = 1 → (fibAt (pullV s) i).caller ≠ -1 → ∃ m : Nat, (fibAt (pullV s) i).caller = m ∧ m ≠ i ∧ Runs (pullV s) m) (hc2 : (fibAt (pullV s) i).frames.length ≠ 1 → Runs (dropped (pullV s) i) i) :
    Calls Tryz.prog 132 #[eng bs (.slice (some ⟨bp, op, none⟩) n cp), .agg #[.int .i64 12, .int .i64 a]] w (EngPost base bs V s (gaveBack (pullV s) i (lastV s)) w) := by
  have HT : Hid (∀ u V', OwnVar base u bs V' s → Calls Tryz.prog 164 #[eng bs (.slice (some ⟨bp, op, none⟩) n cp)] u (OnePost base bs V' s (pullV s) (.int .i64 (lastV s)) u)) := hide (fun u V' hu => take_any base bs V' s i n cp (some ⟨bp, op, none⟩) u hu hn hr hst)
  have HC : Hid (∀ u V', OwnVar base u bs V' (pullV s) → Calls Tryz.prog 174 #[eng bs (.slice (some ⟨bp, op, none⟩) n cp), .int .i64 (lastV s)] u (EngPost base bs V' (pullV s) (gaveBack (pullV s) i (lastV s)) u)) := hide (fun u V' hu => giveBack_any base bs V' (pullV s) i n cp (some ⟨bp, op, none⟩) (lastV s) u hu hn hr1 hout hc1 hc2)
  have HO := hide h
  generalize gaveBack (pullV s) i (lastV s) = R at *
  generalize pullV s = s1 at *
  generalize lastV s = z at *
  clear h hr
  go_enter Tryz.func132, Tryz.ntmps132
  go_upto_region 28 with fail
  generalize hwb : (w.alloc (.cells #[.pointer (some ⟨bs, 0, none⟩), .slice (some ⟨bp, op, none⟩) n cp] 170)).alloc (.cells #[.int .i64 12, .int .i64 a] 72) = wb
  have hkb : Kept w wb := by rw [← hwb]; exact ((Kept.refl w).alloc _).alloc _
  have lB : wb.heap[w.heap.size]? = some (.cells #[.pointer (some ⟨bs, 0, none⟩), .slice (some ⟨bp, op, none⟩) n cp] 170) := by rw [← hwb]; exact lays_alloc (lays_new rfl) _
  have lX : wb.heap[w.heap.size + 1]? = some (.cells #[.int .i64 12, .int .i64 a] 72) := by rw [← hwb]; exact lays_new (by simp)
  have b0 : wb.cell? ⟨w.heap.size, 0, none⟩ = some (.pointer (some ⟨bs, 0, none⟩)) := cell_lays lB 0
  have b1 : wb.cell? ⟨w.heap.size, 1, none⟩ = some (.slice (some ⟨bp, op, none⟩) n cp) := cell_lays lB 1
  have b2 : wb.cell? ⟨w.heap.size + 1, 1, none⟩ = some (.int .i64 a) := cell_lays lX 1
  have HKB := hide hkb
  have HLB := hide lB
  have HLX := hide lX
  clear hwb hkb lB lX
  obtain ⟨hBn, hBo⟩ := (unhide HO).new (b := w.heap.size) (by omega)
  have HD := hide ((Moved.of_kept (unhide HO) (unhide HKB)).drew)
  refine wp_regionP 3 [0, 1] (fun u => u.cell? ⟨w.heap.size, 0, none⟩ = some (.pointer (some ⟨bs, 0, none⟩)) ∧ u.cell? ⟨w.heap.size, 1, none⟩ = some (.slice (some ⟨bp, op, none⟩) n cp)) (by kernel_rfl) ?_
  have hHeld := And.intro b0 b1
  repeat
    refine takeP (v := ?_) hHeld (fun u hSu => ?_) ?_
    rotate_left
    · ((try dsimp only at hSu); go_simp) <;> with_reducible rfl
    try simp only [Act.put, List.setIfInBounds_toArray, List.set_cons_zero, List.set_cons_succ]
  refine takeP_end ?_
  refine takeT_one (i := 2) rfl (by kernel_rfl) (fun K hK => ?_)
  go_simp
  refine ((unhide HT) _ V (unhide HD).own).mono ?_
  rintro e w1 ⟨rfl, V1, hm⟩
  have l1 := hm.lays (lays_drew (unhide HLB)) hBn hBo
  have HM1 := hide ((unhide HD).trans hm)
  refine hK.out _ _ (fun _ => ⟨cell_lays l1 0, cell_lays l1 1⟩) ?_
  clear hK K hm l1
  try simp only [Act.put, List.setIfInBounds_toArray, List.set_cons_zero, List.set_cons_succ]
  refine takeT_one (i := 3) rfl (by kernel_rfl) (fun K hK => ?_)
  go_simp
  refine ((unhide HC) _ V1 (unhide HM1).own).mono ?_
  intro e w2 hp
  have hp' := hp.pre (unhide HO) (unhide HM1)
  have HP := hide hp'
  rcases hp with ⟨_, rfl, _⟩ | ⟨_, rfl, _⟩
  · refine hK.out _ _ (fun h => absurd rfl h) ?_
    clear hK K hp'
    refine takeT_done (by kernel_rfl) ?_ _
    go_wp2
    go_end0
    exact unhide HP
  · clear hp'
    dsimp only [left]
    exact ⟨rfl, unhide HP⟩
theorem do_yield (base bs : Nat) (V : Key → Value) (s : St) (i n cp bp op : Nat) (a : Int) (w : World) (h : OwnVar base w bs V s) (hn : s.now = i) (hr : Runs s i) (hst : 0 < (frAt s i ((fibAt s i).frames.length - 1)).stack.length) (hi1 : i < (pullV s).fibers.length) (hc : (fibAt (pullV s) i).caller ≠ -1 → ∃ m : Nat, (fibAt (pullV s) i).caller = m ∧ m ≠ i ∧ Runs (pullV s) m) :
    Calls Tryz.prog 132 #[eng bs (.slice (some ⟨bp, op, none⟩) n cp), .agg #[.int .i64 15, .int .i64 a]] w (EngPost base bs V s (yieldS (pullV s) i (lastV s)) w) := by
  have HT : Hid (∀ u V', OwnVar base u bs V' s → Calls Tryz.prog 164 #[eng bs (.slice (some ⟨bp, op, none⟩) n cp)] u (OnePost base bs V' s (pullV s) (.int .i64 (lastV s)) u)) := hide (fun u V' hu => take_any base bs V' s i n cp (some ⟨bp, op, none⟩) u hu hn hr hst)
  have HC : Hid (∀ u V', OwnVar base u bs V' (pullV s) → Calls Tryz.prog 177 #[eng bs (.slice (some ⟨bp, op, none⟩) n cp), .int .i64 (lastV s)] u (EngPost base bs V' (pullV s) (yieldS (pullV s) i (lastV s)) u)) := hide (fun u V' hu => yield_any base bs V' (pullV s) i n cp (some ⟨bp, op, none⟩) (lastV s) u hu hn hi1 hc)
  have HO := hide h
  generalize yieldS (pullV s) i (lastV s) = R at *
  generalize pullV s = s1 at *
  generalize lastV s = z at *
  clear h hr
  go_enter Tryz.func132, Tryz.ntmps132
  go_upto_region 35 with fail
  generalize hwb : (w.alloc (.cells #[.pointer (some ⟨bs, 0, none⟩), .slice (some ⟨bp, op, none⟩) n cp] 170)).alloc (.cells #[.int .i64 15, .int .i64 a] 72) = wb
  have hkb : Kept w wb := by rw [← hwb]; exact ((Kept.refl w).alloc _).alloc _
  have lB : wb.heap[w.heap.size]? = some (.cells #[.pointer (some ⟨bs, 0, none⟩), .slice (some ⟨bp, op, none⟩) n cp] 170) := by rw [← hwb]; exact lays_alloc (lays_new rfl) _
  have lX : wb.heap[w.heap.size + 1]? = some (.cells #[.int .i64 15, .int .i64 a] 72) := by rw [← hwb]; exact lays_new (by simp)
  have b0 : wb.cell? ⟨w.heap.size, 0, none⟩ = some (.pointer (some ⟨bs, 0, none⟩)) := cell_lays lB 0
  have b1 : wb.cell? ⟨w.heap.size, 1, none⟩ = some (.slice (some ⟨bp, op, none⟩) n cp) := cell_lays lB 1
  have b2 : wb.cell? ⟨w.heap.size + 1, 1, none⟩ = some (.int .i64 a) := cell_lays lX 1
  have HKB := hide hkb
  have HLB := hide lB
  have HLX := hide lX
  clear hwb hkb lB lX
  obtain ⟨hBn, hBo⟩ := (unhide HO).new (b := w.heap.size) (by omega)
  have HD := hide ((Moved.of_kept (unhide HO) (unhide HKB)).drew)
  refine wp_regionP 3 [0, 1] (fun u => u.cell? ⟨w.heap.size, 0, none⟩ = some (.pointer (some ⟨bs, 0, none⟩)) ∧ u.cell? ⟨w.heap.size, 1, none⟩ = some (.slice (some ⟨bp, op, none⟩) n cp)) (by kernel_rfl) ?_
  have hHeld := And.intro b0 b1
  repeat
    refine takeP (v := ?_) hHeld (fun u hSu => ?_) ?_
    rotate_left
    · ((try dsimp only at hSu); go_simp) <;> with_reducible rfl
    try simp only [Act.put, List.setIfInBounds_toArray, List.set_cons_zero, List.set_cons_succ]
  refine takeP_end ?_
  refine takeT_one (i := 2) rfl (by kernel_rfl) (fun K hK => ?_)
  go_simp
  refine ((unhide HT) _ V (unhide HD).own).mono ?_
  rintro e w1 ⟨rfl, V1, hm⟩
  have l1 := hm.lays (lays_drew (unhide HLB)) hBn hBo
  have HM1 := hide ((unhide HD).trans hm)
  refine hK.out _ _ (fun _ => ⟨cell_lays l1 0, cell_lays l1 1⟩) ?_
  clear hK K hm l1
  try simp only [Act.put, List.setIfInBounds_toArray, List.set_cons_zero, List.set_cons_succ]
  refine takeT_one (i := 3) rfl (by kernel_rfl) (fun K hK => ?_)
  go_simp
  refine ((unhide HC) _ V1 (unhide HM1).own).mono ?_
  intro e w2 hp
  have hp' := hp.pre (unhide HO) (unhide HM1)
  have HP := hide hp'
  rcases hp with ⟨_, rfl, _⟩ | ⟨_, rfl, _⟩
  · refine hK.out _ _ (fun h => absurd rfl h) ?_
    clear hK K hp'
    refine takeT_done (by kernel_rfl) ?_ _
    go_wp2
    go_end0
    exact unhide HP
  · clear hp'
    dsimp only [left]
    exact ⟨rfl, unhide HP⟩
theorem do_put (base bs : Nat) (V : Key → Value) (s : St) (i n cp bp op : Nat) (a : Int) (w : World) (h : OwnVar base w bs V s) (hn : s.now = i) (hr : Runs s i) (hst : 0 < (frAt s i ((fibAt s i).frames.length - 1)).stack.length) (hout : s.out.length ≤ 30) :
    Calls Tryz.prog 132 #[eng bs (.slice (some ⟨bp, op, none⟩) n cp), .agg #[.int .i64 16, .int .i64 a]] w (EngPost base bs V s (putS (pullV s) (lastV s)) w) := by
  have HT : Hid (∀ u V', OwnVar base u bs V' s → Calls Tryz.prog 164 #[eng bs (.slice (some ⟨bp, op, none⟩) n cp)] u (OnePost base bs V' s (pullV s) (.int .i64 (lastV s)) u)) := hide (fun u V' hu => take_any base bs V' s i n cp (some ⟨bp, op, none⟩) u hu hn hr hst)
  have HC : Hid (∀ u V', OwnVar base u bs V' (pullV s) → Calls Tryz.prog 178 #[eng bs (.slice (some ⟨bp, op, none⟩) n cp), .int .i64 (lastV s)] u (EngPost base bs V' (pullV s) (putS (pullV s) (lastV s)) u)) := hide (fun u V' hu => putOut_any base bs V' (pullV s) n cp (some ⟨bp, op, none⟩) (lastV s) u hu hout)
  have HO := hide h
  generalize putS (pullV s) (lastV s) = R at *
  generalize pullV s = s1 at *
  generalize lastV s = z at *
  clear h hr
  go_enter Tryz.func132, Tryz.ntmps132
  go_upto_region 37 with fail
  generalize hwb : (w.alloc (.cells #[.pointer (some ⟨bs, 0, none⟩), .slice (some ⟨bp, op, none⟩) n cp] 170)).alloc (.cells #[.int .i64 16, .int .i64 a] 72) = wb
  have hkb : Kept w wb := by rw [← hwb]; exact ((Kept.refl w).alloc _).alloc _
  have lB : wb.heap[w.heap.size]? = some (.cells #[.pointer (some ⟨bs, 0, none⟩), .slice (some ⟨bp, op, none⟩) n cp] 170) := by rw [← hwb]; exact lays_alloc (lays_new rfl) _
  have lX : wb.heap[w.heap.size + 1]? = some (.cells #[.int .i64 16, .int .i64 a] 72) := by rw [← hwb]; exact lays_new (by simp)
  have b0 : wb.cell? ⟨w.heap.size, 0, none⟩ = some (.pointer (some ⟨bs, 0, none⟩)) := cell_lays lB 0
  have b1 : wb.cell? ⟨w.heap.size, 1, none⟩ = some (.slice (some ⟨bp, op, none⟩) n cp) := cell_lays lB 1
  have b2 : wb.cell? ⟨w.heap.size + 1, 1, none⟩ = some (.int .i64 a) := cell_lays lX 1
  have HKB := hide hkb
  have HLB := hide lB
  have HLX := hide lX
  clear hwb hkb lB lX
  obtain ⟨hBn, hBo⟩ := (unhide HO).new (b := w.heap.size) (by omega)
  have HD := hide ((Moved.of_kept (unhide HO) (unhide HKB)).drew)
  refine wp_regionP 3 [0, 1] (fun u => u.cell? ⟨w.heap.size, 0, none⟩ = some (.pointer (some ⟨bs, 0, none⟩)) ∧ u.cell? ⟨w.heap.size, 1, none⟩ = some (.slice (some ⟨bp, op, none⟩) n cp)) (by kernel_rfl) ?_
  have hHeld := And.intro b0 b1
  repeat
    refine takeP (v := ?_) hHeld (fun u hSu => ?_) ?_
    rotate_left
    · ((try dsimp only at hSu); go_simp) <;> with_reducible rfl
    try simp only [Act.put, List.setIfInBounds_toArray, List.set_cons_zero, List.set_cons_succ]
  refine takeP_end ?_
  refine takeT_one (i := 2) rfl (by kernel_rfl) (fun K hK => ?_)
  go_simp
  refine ((unhide HT) _ V (unhide HD).own).mono ?_
  rintro e w1 ⟨rfl, V1, hm⟩
  have l1 := hm.lays (lays_drew (unhide HLB)) hBn hBo
  have HM1 := hide ((unhide HD).trans hm)
  refine hK.out _ _ (fun _ => ⟨cell_lays l1 0, cell_lays l1 1⟩) ?_
  clear hK K hm l1
  try simp only [Act.put, List.setIfInBounds_toArray, List.set_cons_zero, List.set_cons_succ]
  refine takeT_one (i := 3) rfl (by kernel_rfl) (fun K hK => ?_)
  go_simp
  refine ((unhide HC) _ V1 (unhide HM1).own).mono ?_
  intro e w2 hp
  have hp' := hp.pre (unhide HO) (unhide HM1)
  have HP := hide hp'
  rcases hp with ⟨_, rfl, _⟩ | ⟨_, rfl, _⟩
  · refine hK.out _ _ (fun h => absurd rfl h) ?_
    clear hK K hp'
    refine takeT_done (by kernel_rfl) ?_ _
    go_wp2
    go_end0
    exact unhide HP
  · clear hp'
    dsimp only [left]
    exact ⟨rfl, unhide HP⟩
theorem do_resume (base bs : Nat) (V : Key → Value) (s : St) (i n cp bp op : Nat) (a : Int) (w : World) (h : OwnVar base w bs V s) (hn : s.now = i) (hr : Runs s i) (hst : 2 ≤ (frAt s i ((fibAt s i).frames.length - 1)).stack.length) (hall : ∀ u V', OwnVar base u bs V' (pullV (pullV s)) → Calls Tryz.prog 176 #[eng bs (.slice (some ⟨bp, op, none⟩) n cp), .int .i64 (lastV (pullV s)), .int .i64 (lastV s)] u (EngPost base bs V' (pullV (pullV s)) (resumeS (pullV (pullV s)) i (lastV (pullV s)) (lastV s)) u)) :
    Calls Tryz.prog 132 #[eng bs (.slice (some ⟨bp, op, none⟩) n cp), .agg #[.int .i64 14, .int .i64 a]] w (EngPost base bs V s (resumeS (pullV (pullV s)) i (lastV (pullV s)) (lastV s)) w) := by
  obtain ⟨hn1, hr1, hs1⟩ := pull_runs hn hr
  have HT : Hid (∀ u V', OwnVar base u bs V' s → Calls Tryz.prog 164 #[eng bs (.slice (some ⟨bp, op, none⟩) n cp)] u (OnePost base bs V' s (pullV s) (.int .i64 (lastV s)) u)) := hide (fun u V' hu => take_any base bs V' s i n cp (some ⟨bp, op, none⟩) u hu hn hr (by omega))
  have HT2 : Hid (∀ u V', OwnVar base u bs V' (pullV s) → Calls Tryz.prog 164 #[eng bs (.slice (some ⟨bp, op, none⟩) n cp)] u (OnePost base bs V' (pullV s) (pullV (pullV s)) (.int .i64 (lastV (pullV s))) u)) := hide (fun u V' hu => take_any base bs V' (pullV s) i n cp (some ⟨bp, op, none⟩) u hu hn1 hr1 (by rw [hs1]; simp; omega))
  have HC := hide hall
  have HO := hide h
  generalize resumeS (pullV (pullV s)) i (lastV (pullV s)) (lastV s) = R at *
  generalize lastV s = z at *
  generalize hs1' : pullV s = s1 at *
  generalize pullV s1 = s2 at *
  generalize lastV s1 = x at *
  clear h hr hr1 hs1 hn1 hall hs1'
  go_enter Tryz.func132, Tryz.ntmps132
  go_upto_region 32 with fail
  generalize hwb : (w.alloc (.cells #[.pointer (some ⟨bs, 0, none⟩), .slice (some ⟨bp, op, none⟩) n cp] 170)).alloc (.cells #[.int .i64 14, .int .i64 a] 72) = wb
  have hkb : Kept w wb := by rw [← hwb]; exact ((Kept.refl w).alloc _).alloc _
  have lB : wb.heap[w.heap.size]? = some (.cells #[.pointer (some ⟨bs, 0, none⟩), .slice (some ⟨bp, op, none⟩) n cp] 170) := by rw [← hwb]; exact lays_alloc (lays_new rfl) _
  have lX : wb.heap[w.heap.size + 1]? = some (.cells #[.int .i64 14, .int .i64 a] 72) := by rw [← hwb]; exact lays_new (by simp)
  have b0 : wb.cell? ⟨w.heap.size, 0, none⟩ = some (.pointer (some ⟨bs, 0, none⟩)) := cell_lays lB 0
  have b1 : wb.cell? ⟨w.heap.size, 1, none⟩ = some (.slice (some ⟨bp, op, none⟩) n cp) := cell_lays lB 1
  have b2 : wb.cell? ⟨w.heap.size + 1, 1, none⟩ = some (.int .i64 a) := cell_lays lX 1
  have HKB := hide hkb
  have HLB := hide lB
  have HLX := hide lX
  clear hwb hkb lB lX
  obtain ⟨hBn, hBo⟩ := (unhide HO).new (b := w.heap.size) (by omega)
  have HD := hide (Moved.of_kept (unhide HO) (unhide HKB))
  go_wp2_with fail
  refine ((unhide HT) _ V (unhide HD).own).mono ?_
  rintro e w0 ⟨rfl, V0, hm⟩
  have l0 := hm.lays (unhide HLB) hBn hBo
  have HL0 := hide l0
  have HB0 := hide (hm.off _ (Array.getElem?_eq_some_iff.1 (unhide HLB)).1 hBo)
  have c0 : w0.cell? ⟨w.heap.size, 0, none⟩ = some (.pointer (some ⟨bs, 0, none⟩)) := cell_lays l0 0
  have c1 : w0.cell? ⟨w.heap.size, 1, none⟩ = some (.slice (some ⟨bp, op, none⟩) n cp) := cell_lays l0 1
  have HM0 := hide (((unhide HD).trans hm).drew)
  clear hm l0 b0 b1 b2
  go_upto_region 33 with fail
  refine wp_regionP 4 [0, 1, 3] (fun u => u.cell? ⟨w.heap.size, 0, none⟩ = some (.pointer (some ⟨bs, 0, none⟩)) ∧ u.cell? ⟨w.heap.size, 1, none⟩ = some (.slice (some ⟨bp, op, none⟩) n cp)) (by kernel_rfl) ?_
  have hHeld := And.intro c0 c1
  repeat
    refine takeP (v := ?_) hHeld (fun u hSu => ?_) ?_
    rotate_left
    · ((try dsimp only at hSu); go_simp) <;> with_reducible rfl
    try simp only [Act.put, List.setIfInBounds_toArray, List.set_cons_zero, List.set_cons_succ]
  refine takeP_end ?_
  refine takeT_one (i := 2) rfl (by kernel_rfl) (fun K hK => ?_)
  go_simp
  refine ((unhide HT2) _ V0 (unhide HM0).own).mono ?_
  rintro e w1 ⟨rfl, V1, hm⟩
  have l1 := hm.lays (lays_drew (unhide HL0)) hBn (unhide HB0)
  have HM1 := hide ((unhide HM0).trans hm)
  refine hK.out _ _ (fun _ => ⟨cell_lays l1 0, cell_lays l1 1⟩) ?_
  clear hK K hm l1
  try simp only [Act.put, List.setIfInBounds_toArray, List.set_cons_zero, List.set_cons_succ]
  refine takeT_one (i := 4) rfl (by kernel_rfl) (fun K hK => ?_)
  go_simp
  refine ((unhide HC) _ V1 (unhide HM1).own).mono ?_
  intro e w2 hp
  have hp' := hp.pre (unhide HO) (unhide HM1)
  have HP := hide hp'
  rcases hp with ⟨_, rfl, _⟩ | ⟨_, rfl, _⟩
  · refine hK.out _ _ (fun h => absurd rfl h) ?_
    clear hK K hp'
    refine takeT_done (by kernel_rfl) ?_ _
    go_wp2
    go_end0
    exact unhide HP
  · clear hp'
    dsimp only [left]
    exact ⟨rfl, unhide HP⟩
theorem top_cells' {base bs : Nat} {V : Key → Value} {s : St} {w : World} (h : OwnVar base w bs V s) {i : Nat} (hn : s.now = i) (hr : Runs s i) (oa : Option Addr) (n cp : Nat) :
    ∃ g, (∀ g' cap', V (.frames i) = .slice (some ⟨g', 0, none⟩) (fibAt s i).frames.length cap' → g = g') ∧ (∀ u, OwnVar base u bs V s → Calls Tryz.prog 165 #[eng bs (.slice oa n cp)] u fun e w' => e = .returned (.pointer (some ⟨g, ((fibAt s i).frames.length - 1) * 4, none⟩)) ∧ Kept u w') ∧
      ∀ u, OwnVar base u bs V s → (∃ y, u.cell? ⟨g, ((fibAt s i).frames.length - 1) * 4 + 1, none⟩ = some y) ∧ u.frozen? ⟨g, ((fibAt s i).frames.length - 1) * 4 + 1, none⟩ = false ∧ u.cell? ⟨g, ((fibAt s i).frames.length - 1) * 4 + 2, none⟩ = some (V (.locals i ((fibAt s i).frames.length - 1))) ∧
        ∀ a : Int, Moved base bs V s u V (setAt s a) (u.setCell ⟨g, ((fibAt s i).frames.length - 1) * 4 + 1, none⟩ (.int .i64 a)) := by
  obtain ⟨g, cap, eg, ht⟩ := engTop_own h hn hr oa n cp
  refine ⟨g, fun g' cap' e => by rw [eg] at e; exact (by simpa using e : (g = g') ∧ True ∧ cap = cap').1, ht, fun u hu => ?_⟩
  have hj : (fibAt s i).frames.length - 1 < (fibAt s i).frames.length := by have := hr.fr; omega
  obtain ⟨g', cap', eg', _, f0, f1, f2, f3, ffz, _⟩ := hu.own.fr hr.lt hj
  rw [eg] at eg'
  obtain ⟨⟨rfl⟩, -, rfl⟩ := (by simpa using eg' : (g = g') ∧ True ∧ cap = cap')
  refine ⟨⟨_, f1⟩, ffz _, f2, fun a => ?_⟩
  rw [setAt_setFr hn]
  exact Moved.setAt hu hr.lt hj eg a
theorem top_cells {base bs : Nat} {V : Key → Value} {s : St} {w : World} (h : OwnVar base w bs V s) {i : Nat} (hn : s.now = i) (hr : Runs s i) (oa : Option Addr) (n cp : Nat) :
    ∃ g, (∀ u, OwnVar base u bs V s → Calls Tryz.prog 165 #[eng bs (.slice oa n cp)] u fun e w' => e = .returned (.pointer (some ⟨g, ((fibAt s i).frames.length - 1) * 4, none⟩)) ∧ Kept u w') ∧
      ∀ u, OwnVar base u bs V s → (∃ y, u.cell? ⟨g, ((fibAt s i).frames.length - 1) * 4 + 1, none⟩ = some y) ∧ u.frozen? ⟨g, ((fibAt s i).frames.length - 1) * 4 + 1, none⟩ = false ∧ u.cell? ⟨g, ((fibAt s i).frames.length - 1) * 4 + 2, none⟩ = some (V (.locals i ((fibAt s i).frames.length - 1))) ∧
        ∀ a : Int, Moved base bs V s u V (setAt s a) (u.setCell ⟨g, ((fibAt s i).frames.length - 1) * 4 + 1, none⟩ (.int .i64 a)) :=
  let ⟨g, _, h1, h2⟩ := top_cells' h hn hr oa n cp
  ⟨g, h1, h2⟩
theorem do_jump (base bs : Nat) (V : Key → Value) (s : St) (i n cp bp op : Nat) (a : Int) (w : World) (h : OwnVar base w bs V s) (hn : s.now = i) (hr : Runs s i) :
    Calls Tryz.prog 132 #[eng bs (.slice (some ⟨bp, op, none⟩) n cp), .agg #[.int .i64 9, .int .i64 a]] w (EngPost base bs V s (setAt s a, 0) w) := by
  obtain ⟨g, ht, hc⟩ := top_cells h hn hr (some ⟨bp, op, none⟩) n cp
  have HTOP := hide ht
  have HCEL := hide hc
  have HO := hide h
  generalize (fibAt s i).frames.length - 1 = j at *
  clear h hr ht hc
  go_enter Tryz.func132, Tryz.ntmps132
  go_upto_region 21 with fail
  generalize hwb : (w.alloc (.cells #[.pointer (some ⟨bs, 0, none⟩), .slice (some ⟨bp, op, none⟩) n cp] 170)).alloc (.cells #[.int .i64 9, .int .i64 a] 72) = wb
  have hkb : Kept w wb := by rw [← hwb]; exact ((Kept.refl w).alloc _).alloc _
  have lB : wb.heap[w.heap.size]? = some (.cells #[.pointer (some ⟨bs, 0, none⟩), .slice (some ⟨bp, op, none⟩) n cp] 170) := by rw [← hwb]; exact lays_alloc (lays_new rfl) _
  have lX : wb.heap[w.heap.size + 1]? = some (.cells #[.int .i64 9, .int .i64 a] 72) := by rw [← hwb]; exact lays_new (by simp)
  have b0 : wb.cell? ⟨w.heap.size, 0, none⟩ = some (.pointer (some ⟨bs, 0, none⟩)) := cell_lays lB 0
  have b1 : wb.cell? ⟨w.heap.size, 1, none⟩ = some (.slice (some ⟨bp, op, none⟩) n cp) := cell_lays lB 1
  have b2 : wb.cell? ⟨w.heap.size + 1, 1, none⟩ = some (.int .i64 a) := cell_lays lX 1
  have HKB := hide hkb
  have HLB := hide lB
  have HLX := hide lX
  clear hwb hkb lB lX
  have HD := hide ((Moved.of_kept (unhide HO) (unhide HKB)).drew)
  refine wp_regionP 6 [0, 2, 3] (fun u => u.cell? ⟨w.heap.size, 0, none⟩ = some (.pointer (some ⟨bs, 0, none⟩)) ∧ u.cell? ⟨w.heap.size, 1, none⟩ = some (.slice (some ⟨bp, op, none⟩) n cp) ∧ u.cell? ⟨w.heap.size + 1, 1, none⟩ = some (.int .i64 a)) (by kernel_rfl) ?_
  have hHeld := And.intro b0 (And.intro b1 b2)
  repeat
    refine takeP (v := ?_) hHeld (fun u hSu => ?_) ?_
    rotate_left
    · ((try dsimp only at hSu); go_simp) <;> with_reducible rfl
    try simp only [Act.put, List.setIfInBounds_toArray, List.set_cons_zero, List.set_cons_succ]
  refine takeP_end ?_
  refine takeT_one (i := 1) rfl (by kernel_rfl) (fun K hK => ?_)
  go_simp
  refine ((unhide HTOP) _ (unhide HD).own).mono ?_
  rintro e w3 ⟨rfl, hk3⟩
  have hm3 := (unhide HD).kept hk3
  obtain ⟨⟨y, hy⟩, hz, _, hset⟩ := (unhide HCEL) w3 hm3.own
  have l3 := lays_kept hk3 (lays_drew (unhide HLB))
  have x3 := lays_kept hk3 (lays_drew (unhide HLX))
  have hS3 := And.intro (show w3.cell? ⟨w.heap.size, 0, none⟩ = some (.pointer (some ⟨bs, 0, none⟩)) from cell_lays l3 0) (And.intro (show w3.cell? ⟨w.heap.size, 1, none⟩ = some (.slice (some ⟨bp, op, none⟩) n cp) from cell_lays l3 1) (show w3.cell? ⟨w.heap.size + 1, 1, none⟩ = some (.int .i64 a) from cell_lays x3 1))
  have HM4 := hide (hm3.trans (hset a))
  refine hK.out _ _ (fun _ => hS3) ?_
  clear hK K hm3 hset l3 x3 hk3
  try simp only [Act.put, List.setIfInBounds_toArray, List.set_cons_zero, List.set_cons_succ]
  refine takeT_one (i := 4) rfl (by kernel_rfl) (fun K hK => ?_)
  go_simp
  refine hK.out _ _ (fun _ => hS3) ?_
  clear hK K
  try simp only [Act.put, List.setIfInBounds_toArray, List.set_cons_zero, List.set_cons_succ]
  refine takeT_one (i := 5) rfl (by kernel_rfl) (fun K hK => ?_)
  go_simp
  refine hK.out _ _ (fun _ => hS3) ?_
  clear hK K
  try simp only [Act.put, List.setIfInBounds_toArray, List.set_cons_zero, List.set_cons_succ]
  refine takeT_one (i := 6) rfl (by kernel_rfl) (fun K hK => ?_)
  go_simp
  refine hK.out _ _ (fun h => absurd rfl h) ?_
  clear hK K
  refine takeT_done (by kernel_rfl) ?_ _
  go_wp2
  go_end0
  exact Or.inl ⟨rfl, rfl, V, unhide HM4⟩
theorem do_zero (base bs : Nat) (V : Key → Value) (s : St) (i n cp bp op : Nat) (a : Int) (w : World) (h : OwnVar base w bs V s) (hn : s.now = i) (hr : Runs s i) (hst : 0 < (frAt s i ((fibAt s i).frames.length - 1)).stack.length) :
    Calls Tryz.prog 132 #[eng bs (.slice (some ⟨bp, op, none⟩) n cp), .agg #[.int .i64 10, .int .i64 a]] w (EngPost base bs V s ((if lastV s = 0 then setAt (pullV s) a else pullV s), 0) w) := by
  obtain ⟨hn1, hr1, _⟩ := pull_runs hn hr
  have HT : Hid (∀ u V', OwnVar base u bs V' s → Calls Tryz.prog 164 #[eng bs (.slice (some ⟨bp, op, none⟩) n cp)] u (OnePost base bs V' s (pullV s) (.int .i64 (lastV s)) u)) := hide (fun u V' hu => take_any base bs V' s i n cp (some ⟨bp, op, none⟩) u hu hn hr hst)
  have HTC := hide (fun u V' (hu : OwnVar base u bs V' (pullV s)) => top_cells hu hn1 hr1 (some ⟨bp, op, none⟩) n cp)
  have HO := hide h
  generalize hs1 : pullV s = s1 at *
  generalize hz : lastV s = z at *
  generalize hR : (if z = 0 then setAt s1 a else s1) = R
  have HR : Hid ((z = 0 → R = setAt s1 a) ∧ (z ≠ 0 → R = s1)) := hide ⟨fun h => by rw [← hR, if_pos h], fun h => by rw [← hR, if_neg h]⟩
  clear h hr hs1 hz hR hr1 hn1
  go_enter Tryz.func132, Tryz.ntmps132
  go_upto_region 23 with fail
  generalize hwb : (w.alloc (.cells #[.pointer (some ⟨bs, 0, none⟩), .slice (some ⟨bp, op, none⟩) n cp] 170)).alloc (.cells #[.int .i64 10, .int .i64 a] 72) = wb
  have hkb : Kept w wb := by rw [← hwb]; exact ((Kept.refl w).alloc _).alloc _
  have lB : wb.heap[w.heap.size]? = some (.cells #[.pointer (some ⟨bs, 0, none⟩), .slice (some ⟨bp, op, none⟩) n cp] 170) := by rw [← hwb]; exact lays_alloc (lays_new rfl) _
  have lX : wb.heap[w.heap.size + 1]? = some (.cells #[.int .i64 10, .int .i64 a] 72) := by rw [← hwb]; exact lays_new (by simp)
  have b0 : wb.cell? ⟨w.heap.size, 0, none⟩ = some (.pointer (some ⟨bs, 0, none⟩)) := cell_lays lB 0
  have b1 : wb.cell? ⟨w.heap.size, 1, none⟩ = some (.slice (some ⟨bp, op, none⟩) n cp) := cell_lays lB 1
  have b2 : wb.cell? ⟨w.heap.size + 1, 1, none⟩ = some (.int .i64 a) := cell_lays lX 1
  have HKB := hide hkb
  have HLB := hide lB
  have HLX := hide lX
  clear hwb hkb lB lX
  obtain ⟨hBn, hBo⟩ := (unhide HO).new (b := w.heap.size) (by omega)
  obtain ⟨hXn, hXo⟩ := (unhide HO).new (b := w.heap.size + 1) (by omega)
  have HD := hide (Moved.of_kept (unhide HO) (unhide HKB))
  go_wp2_with fail
  refine ((unhide HT) _ V (unhide HD).own).mono ?_
  rintro e w0 ⟨rfl, V0, hm⟩
  have l0 := hm.lays (unhide HLB) hBn hBo
  have x0 := hm.lays (unhide HLX) hXn hXo
  have HL0 := hide l0
  have HX0 := hide x0
  have c0 : w0.cell? ⟨w.heap.size, 0, none⟩ = some (.pointer (some ⟨bs, 0, none⟩)) := cell_lays l0 0
  have c1 : w0.cell? ⟨w.heap.size, 1, none⟩ = some (.slice (some ⟨bp, op, none⟩) n cp) := cell_lays l0 1
  have c2 : w0.cell? ⟨w.heap.size + 1, 1, none⟩ = some (.int .i64 a) := cell_lays x0 1
  obtain ⟨g, ht, hc⟩ := (unhide HTC) w0 V0 hm.own
  have HTOP := hide ht
  have HCEL := hide hc
  have HM0 := hide ((unhide HD).trans hm)
  clear hm l0 x0 b0 b1 b2 ht hc
  by_cases hz0 : z = 0
  · have HRR := hide ((unhide HR).1 hz0)
    subst hz0
    generalize (fibAt s1 i).frames.length - 1 = j at *
    go_upto_region 24 with fail
    have HMD := hide (unhide HM0).drew
    refine wp_regionP 6 [0, 2, 3] (fun u => u.cell? ⟨w.heap.size, 0, none⟩ = some (.pointer (some ⟨bs, 0, none⟩)) ∧ u.cell? ⟨w.heap.size, 1, none⟩ = some (.slice (some ⟨bp, op, none⟩) n cp) ∧ u.cell? ⟨w.heap.size + 1, 1, none⟩ = some (.int .i64 a)) (by kernel_rfl) ?_
    have hHeld := And.intro c0 (And.intro c1 c2)
    repeat
      refine takeP (v := ?_) hHeld (fun u hSu => ?_) ?_
      rotate_left
      · ((try dsimp only at hSu); go_simp) <;> with_reducible rfl
      try simp only [Act.put, List.setIfInBounds_toArray, List.set_cons_zero, List.set_cons_succ]
    refine takeP_end ?_
    refine takeT_one (i := 1) rfl (by kernel_rfl) (fun K hK => ?_)
    go_simp
    refine ((unhide HTOP) _ (unhide HMD).own).mono ?_
    rintro e w3 ⟨rfl, hk3⟩
    have hm3 := (unhide HMD).kept hk3
    obtain ⟨⟨y, hy⟩, hz, _, hset⟩ := (unhide HCEL) w3 hm3.own
    have l3 := lays_kept hk3 (lays_drew (unhide HL0))
    have x3 := lays_kept hk3 (lays_drew (unhide HX0))
    have hS3 := And.intro (show w3.cell? ⟨w.heap.size, 0, none⟩ = some (.pointer (some ⟨bs, 0, none⟩)) from cell_lays l3 0) (And.intro (show w3.cell? ⟨w.heap.size, 1, none⟩ = some (.slice (some ⟨bp, op, none⟩) n cp) from cell_lays l3 1) (show w3.cell? ⟨w.heap.size + 1, 1, none⟩ = some (.int .i64 a) from cell_lays x3 1))
    have HM4 := hide (hm3.trans (hset a))
    refine hK.out _ _ (fun _ => hS3) ?_
    clear hK K hm3 hset l3 x3 hk3
    try simp only [Act.put, List.setIfInBounds_toArray, List.set_cons_zero, List.set_cons_succ]
    refine takeT_one (i := 4) rfl (by kernel_rfl) (fun K hK => ?_)
    go_simp
    refine hK.out _ _ (fun _ => hS3) ?_
    clear hK K
    try simp only [Act.put, List.setIfInBounds_toArray, List.set_cons_zero, List.set_cons_succ]
    refine takeT_one (i := 5) rfl (by kernel_rfl) (fun K hK => ?_)
    go_simp
    refine hK.out _ _ (fun _ => hS3) ?_
    clear hK K
    try simp only [Act.put, List.setIfInBounds_toArray, List.set_cons_zero, List.set_cons_succ]
    refine takeT_one (i := 6) rfl (by kernel_rfl) (fun K hK => ?_)
    go_simp
    refine hK.out _ _ (fun h => absurd rfl h) ?_
    clear hK K
    refine takeT_done (by kernel_rfl) ?_ _
    go_wp2
    go_end0
    rw [unhide HRR]
    exact Or.inl ⟨rfl, rfl, V0, unhide HM4⟩
  · have HRR := hide ((unhide HR).2 hz0)
    have hbz : (z == 0) = false := by rw [beq_eq_false_iff_ne]; exact hz0
    clear hz0
    go_wp2
    go_end0
    rw [unhide HRR]
    exact Or.inl ⟨rfl, rfl, V0, unhide HM0⟩
theorem do_load (base bs : Nat) (V : Key → Value) (s : St) (i n cp bp op : Nat) (a : Int) (w : World) (h : OwnVar base w bs V s) (hn : s.now = i) (hr : Runs s i) (q : Nat) (haq : a = q) (hq : q < (frAt s i ((fibAt s i).frames.length - 1)).locals.length) :
    Calls Tryz.prog 132 #[eng bs (.slice (some ⟨bp, op, none⟩) n cp), .agg #[.int .i64 2, .int .i64 a]] w (EngPost base bs V s (pushV s i ((frAt s i ((fibAt s i).frames.length - 1)).locals.getD q 0), 0) w) := by
  obtain ⟨g, ht, hc⟩ := top_cells h hn hr (some ⟨bp, op, none⟩) n cp
  have hj : (fibAt s i).frames.length - 1 < (fibAt s i).frames.length := by have := hr.fr; omega
  have HP : Hid (∀ u V', OwnVar base u bs V' s → Calls Tryz.prog 163 #[eng bs (.slice (some ⟨bp, op, none⟩) n cp), .slice (some ⟨u.heap.size, 0, none⟩) 1 1] (u.alloc (.cells #[.int .i64 ((frAt s i ((fibAt s i).frames.length - 1)).locals.getD q 0)] 3)) (OnePost base bs V' s (pushV s i ((frAt s i ((fibAt s i).frames.length - 1)).locals.getD q 0)) (.tuple #[]) (u.alloc (.cells #[.int .i64 ((frAt s i ((fibAt s i).frames.length - 1)).locals.getD q 0)] 3)))) := hide (fun u V' hu => engPut_any base bs V' s i n cp u.heap.size (some ⟨bp, op, none⟩) _ _ (hu.alloc _) hn hr (cell_lays (lays_new rfl) 0))
  obtain ⟨gl, cl, el, _⟩ := row_some (h.own.loc hr.lt hj) (by omega)
  have HLC : Hid (∀ u, OwnVar base u bs V s → u.cell? ⟨gl, q, none⟩ = some (.int .i64 ((frAt s i ((fibAt s i).frames.length - 1)).locals.getD q 0)) ∧ u.cell? ⟨g, ((fibAt s i).frames.length - 1) * 4 + 2, none⟩ = some (.slice (some ⟨gl, 0, none⟩) (frAt s i ((fibAt s i).frames.length - 1)).locals.length cl)) := hide (fun u hu => by
    obtain ⟨gl', cl', el', _, hx, _⟩ := row_some (hu.own.loc hr.lt hj) (by omega)
    rw [el] at el'
    obtain ⟨⟨rfl⟩, -, rfl⟩ := (by simpa using el' : (gl = gl') ∧ True ∧ cl = cl')
    exact ⟨hx q _ (ints_at (getD_of_lt _ q 0 hq)), by rw [← el]; exact (hc u hu).2.2.1⟩)
  have HTOP := hide ht
  have HO := hide h
  have hq0 : (0 : Int) ≤ (q : Int) := by omega
  have hq1 : (q : Int) < ((frAt s i ((fibAt s i).frames.length - 1)).locals.length : Int) := by omega
  generalize (frAt s i ((fibAt s i).frames.length - 1)).locals.getD q 0 = z at *
  generalize (frAt s i ((fibAt s i).frames.length - 1)).locals.length = lo at *
  generalize (fibAt s i).frames.length - 1 = j at *
  subst haq
  clear h hr ht hc hj el
  go_enter Tryz.func132, Tryz.ntmps132
  go_upto_region 7 with fail
  generalize hwb : (w.alloc (.cells #[.pointer (some ⟨bs, 0, none⟩), .slice (some ⟨bp, op, none⟩) n cp] 170)).alloc (.cells #[.int .i64 2, .int .i64 q] 72) = wb
  have hkb : Kept w wb := by rw [← hwb]; exact ((Kept.refl w).alloc _).alloc _
  have lB : wb.heap[w.heap.size]? = some (.cells #[.pointer (some ⟨bs, 0, none⟩), .slice (some ⟨bp, op, none⟩) n cp] 170) := by rw [← hwb]; exact lays_alloc (lays_new rfl) _
  have lX : wb.heap[w.heap.size + 1]? = some (.cells #[.int .i64 2, .int .i64 q] 72) := by rw [← hwb]; exact lays_new (by simp)
  have b0 : wb.cell? ⟨w.heap.size, 0, none⟩ = some (.pointer (some ⟨bs, 0, none⟩)) := cell_lays lB 0
  have b1 : wb.cell? ⟨w.heap.size, 1, none⟩ = some (.slice (some ⟨bp, op, none⟩) n cp) := cell_lays lB 1
  have b2 : wb.cell? ⟨w.heap.size + 1, 1, none⟩ = some (.int .i64 q) := cell_lays lX 1
  have HKB := hide hkb
  have HLB := hide lB
  have HLX := hide lX
  clear hwb hkb lB lX
  have HD := hide ((Moved.of_kept (unhide HO) (unhide HKB)).drew)
  refine wp_regionP 11 [0, 1, 6, 7] (fun u => u.cell? ⟨w.heap.size, 0, none⟩ = some (.pointer (some ⟨bs, 0, none⟩)) ∧ u.cell? ⟨w.heap.size, 1, none⟩ = some (.slice (some ⟨bp, op, none⟩) n cp) ∧ u.cell? ⟨w.heap.size + 1, 1, none⟩ = some (.int .i64 q) ∧ u.cell? ⟨g, j * 4 + 2, none⟩ = some (.slice (some ⟨gl, 0, none⟩) lo cl) ∧ u.cell? ⟨gl, q, none⟩ = some (.int .i64 z)) (by kernel_rfl) ?_
  obtain ⟨y0, y1⟩ := (unhide HLC) _ (unhide HD).own
  have hHeld := And.intro b0 (And.intro b1 (And.intro b2 (And.intro y1 y0)))
  repeat
    refine takeP (v := ?_) hHeld (fun u hSu => ?_) ?_
    rotate_left
    · ((try dsimp only at hSu); go_simp) <;> with_reducible rfl
    try simp only [Act.put, List.setIfInBounds_toArray, List.set_cons_zero, List.set_cons_succ]
  refine takeP_end ?_
  refine takeT_one (i := 2) rfl (by kernel_rfl) (fun K hK => ?_)
  go_simp
  refine ((unhide HTOP) _ (unhide HD).own).mono ?_
  rintro e w3 ⟨rfl, hk3⟩
  have HM3 := hide ((unhide HD).kept hk3)
  have hHeld3 := And.intro (hk3.cell hHeld.1) (And.intro (hk3.cell hHeld.2.1) (And.intro (hk3.cell hHeld.2.2.1) (And.intro (hk3.cell hHeld.2.2.2.1) (hk3.cell hHeld.2.2.2.2))))
  refine hK.out _ _ (fun _ => hHeld3) ?_
  clear hK K hHeld hk3 b0 b1 b2 y0 y1
  try simp only [Act.put, List.setIfInBounds_toArray, List.set_cons_zero, List.set_cons_succ]
  refine AnyP.out (plan := [3, 4, 5, 8, 9]) ?_
  repeat
    refine takeP (v := ?_) hHeld3 (fun u hSu => ?_) ?_
    rotate_left
    · ((try dsimp only at hSu); go_simp) <;> with_reducible rfl
    try simp only [Act.put, List.setIfInBounds_toArray, List.set_cons_zero, List.set_cons_succ]
  refine takeP_end ?_
  refine takeT_one (i := 10) rfl (by kernel_rfl) (fun K hK => ?_)
  go_simp
  refine hK.out _ _ (fun _ => ⟨((Kept.refl w3).alloc _).cell hHeld3.1, ((Kept.refl w3).alloc _).cell hHeld3.2.1, ((Kept.refl w3).alloc _).cell hHeld3.2.2.1, ((Kept.refl w3).alloc _).cell hHeld3.2.2.2.1, ((Kept.refl w3).alloc _).cell hHeld3.2.2.2.2⟩) ?_
  clear hK K
  try simp only [Act.put, List.setIfInBounds_toArray, List.set_cons_zero, List.set_cons_succ]
  refine takeT_one (i := 11) rfl (by kernel_rfl) (fun K hK => ?_)
  go_simp
  refine ((unhide HP) _ V (unhide HM3).own).mono ?_
  rintro e w4 ⟨rfl, V4, hm⟩
  have HM4 := hide ((unhide HM3).trans (hm.pre (unhide HM3).own ((Kept.refl _).alloc _)))
  refine hK.out _ _ (fun h => absurd rfl h) ?_
  clear hK K hm
  refine takeT_done (by kernel_rfl) ?_ _
  go_wp2
  go_end0
  exact Or.inl ⟨rfl, rfl, V4, unhide HM4⟩
end Go.Proofs.YtokhibfenccijaaGreatDoor
