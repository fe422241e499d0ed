/- CloneA, CloneB, CloneC, CloneD, CloneE, CloneF -/
import Derived.Test.YtokhibfenccijaaGreatDoorKB35
import Derived.Test.YtokhibfenccijaaGreatDoorKB27
import Derived.Test.YtokhibfenccijaaGreatDoorKB01
import Derived.Test.YtokhibfenccijaaGreatDoorKB04
import Derived.Laws.Cover3
import Derived.Test.YtokhibfenccijaaGreatDoorKB24
set_option maxRecDepth 100000
set_option maxHeartbeats 8000000
namespace Go.Proofs.YtokhibfenccijaaGreatDoor
open Go.RowKit
theorem row_copied (t e : TypeId) (i : TypeInfo) (z : Value) (size bytes : Nat) (ht : Tryz.prog.underlying t = some (.slice e)) (hi : Tryz.prog.info? e = some i) (hz : i.zero = some z) (hsize : i.size = size) (hby : i.bytes = bytes) (hzs : z.cells.size = size) (hsz : 0 < size)
    (base B : Nat) (u : World) (a : Addr) (n cap : Nat) (xs : List Value) (hx : xs.length = n * size) (hc : ∀ j x, xs[j]? = some x → u.cell? (a.add j) = some x) (h1 : ∀ x ∈ xs, x.oneCell' = true) (hn : n ≤ maxLen) (hnb : n * bytes ≤ 140737488355328)
    (hB : u.heap[B]? = some (.cells #[] e)) (hb : base ≤ B) :
    ∃ v' u', (Builtin.append_ #[t, t] t #[.slice (some ⟨B, 0, none⟩) 0 0, .slice (some a) n cap]).run Tryz.prog u = .ok v' u' ∧ u'.ownsRow base e size v' n xs ∧ u.grownBy u' (some B) := by
  have hBl : B < u.heap.size := (Array.getElem?_eq_some_iff.1 hB).1
  have hrow : u.ownsRow base e size (.slice (some ⟨B, 0, none⟩) 0 0) 0 [] := ⟨by simp, .inr ⟨B, 0, #[], rfl, hb, hB, Nat.le_refl _, by decide, by simp, by simp⟩⟩
  obtain ⟨v', u', hrun, hown, hgrow, _⟩ := run_append_own (P := Tryz.prog) u base t t e i z size bytes ht hi hz hsize hby hzs hsz _ 0 [] hrow a n cap xs hx hc h1 (by simpa using hn) (by simpa using hnb) (by omega)
  exact ⟨v', u', hrun, by simpa using hown, hgrow⟩
def ClonePost (e : TypeId) (size n : Nat) (xs : List Value) (w : World) (en : Ending) (w' : World) : Prop :=
  ∃ v', en = .returned v' ∧ w'.ownsRow w.heap.size e size v' n xs ∧ Kept w w'
theorem run_isNil (w : World) (t e : TypeId) (a : Option Addr) (l c : Nat) (h : Tryz.prog.underlying t = some (.slice e)) : (binOp .eql t (.slice a l c) (.slice none 0 0)).run Tryz.prog w = .ok (.bool a.isNone) w := by
  simp [binOp, run_equal_slice_nil w t e a l c h]
structure Cells (w : World) (oa : Option Addr) (xs : List Value) : Prop where
  cell : ∀ j x, xs[j]? = some x → ∃ b o, oa = some ⟨b, o, none⟩ ∧ w.cell? ⟨b, o + j, none⟩ = some x
  one : ∀ x ∈ xs, x.oneCell' = true
theorem Cells.none {w : World} {xs : List Value} (h : Cells w Option.none xs) : xs = [] := by
  cases xs with
  | nil => rfl
  | cons x r => obtain ⟨b, o, e, _⟩ := h.cell 0 x rfl; cases e
theorem Cells.at {w : World} {a : Addr} {xs : List Value} (h : Cells w (some a) xs) : ∀ j x, xs[j]? = some x → w.cell? (a.add j) = some x := fun j x hj => by
  obtain ⟨b, o, e, hc⟩ := h.cell j x hj
  obtain rfl := Option.some.inj e
  have : ((⟨b, o, .none⟩ : Addr).add j) = ⟨b, o + j, .none⟩ := by unfold Addr.add; split <;> simp_all
  rw [this]; exact hc
theorem Cells.kept {w w' : World} {oa : Option Addr} {xs : List Value} (h : Cells w oa xs) (hk : Kept w w') : Cells w' oa xs :=
  ⟨fun j x hj => by obtain ⟨b, o, e, hc⟩ := h.cell j x hj; exact ⟨b, o, e, hk.cell hc⟩, h.one⟩
theorem cloneInts_any (n : Nat) (oa : Option Addr) (cap : Nat) (xs : List Value) (w : World) (h : Cells w oa xs) (hx : xs.length = n * 1) (hn : n ≤ 1000) :
    Calls Tryz.prog 91 #[.slice oa n cap] w (ClonePost 3 1 n xs w) := by
  have hnil := fun u => run_isNil u 30 3 oa n cap Tryz.underlying30
  cases oa with
  | none =>
    obtain rfl := h.none
    obtain rfl : n = 0 := by simp at hx; omega
    go_enter Tryz.func91, Tryz.ntmps91
    go_wp2
    go_ret
    exact ⟨_, rfl, World.ownsRow_nil _ _ _ _, Kept.refl _⟩
  | some a =>
    obtain ⟨i0, hi0, hz0, hz1, hz2⟩ := info_parts infoInt
    have hk1 : Kept w (w.alloc (.cells #[] 3)) := (Kept.refl w).alloc _
    obtain ⟨v', u', hrun, hown, hg⟩ := row_copied 30 3 i0 _ 1 8 Tryz.underlying30 hi0 hz0 hz1 hz2 rfl (by decide) w.heap.size w.heap.size (w.alloc (.cells #[] 3)) a n cap xs hx (h.kept hk1).at h.one (by unfold maxLen; omega) (by omega) (lays_new rfl) (Nat.le_refl _)
    have hk2 : Kept w u' := Below.grown hk1 hg (by simp) (fun j hj => by cases hj; exact Nat.le_refl _)
    clear hi0 hz0 hz1 hz2 hg hk1 h hx
    go_enter Tryz.func91, Tryz.ntmps91
    go_wp2_with (at_builtin; refine wpList_appR (v := .slice (some ⟨w.heap.size, 0, none⟩) 0 0) (u := .slice (some a) n cap) _ rfl _ _ 30 rfl rfl rfl hrun ?_; clear hrun)
    go_ret
    exact ⟨v', rfl, hown, hk2⟩
theorem cloneFrames_any (n : Nat) (oa : Option Addr) (cap : Nat) (xs : List Value) (w : World) (h : Cells w oa xs) (hx : xs.length = n * 4) (hn : n ≤ 1000) :
    Calls Tryz.prog 162 #[.slice oa n cap] w (ClonePost 92 4 n xs w) := by
  have hnil := fun u => run_isNil u 93 92 oa n cap Tryz.underlying93
  cases oa with
  | none =>
    obtain rfl := h.none
    obtain rfl : n = 0 := by simp at hx; omega
    go_enter Tryz.func162, Tryz.ntmps162
    go_wp2
    go_ret
    exact ⟨_, rfl, World.ownsRow_nil _ _ _ _, Kept.refl _⟩
  | some a =>
    obtain ⟨i0, hi0, hz0, hz1, hz2⟩ := info_parts infoFrame
    have hk1 : Kept w (w.alloc (.cells #[] 92)) := (Kept.refl w).alloc _
    obtain ⟨v', u', hrun, hown, hg⟩ := row_copied 93 92 i0 _ 4 64 Tryz.underlying93 hi0 hz0 hz1 hz2 rfl (by decide) w.heap.size w.heap.size (w.alloc (.cells #[] 92)) a n cap xs hx (h.kept hk1).at h.one (by unfold maxLen; omega) (by omega) (lays_new rfl) (Nat.le_refl _)
    have hk2 : Kept w u' := Below.grown hk1 hg (by simp) (fun j hj => by cases hj; exact Nat.le_refl _)
    clear hi0 hz0 hz1 hz2 hg hk1 h hx
    go_enter Tryz.func162, Tryz.ntmps162
    go_wp2_with (at_builtin; refine wpList_appR (v := .slice (some ⟨w.heap.size, 0, none⟩) 0 0) (u := .slice (some a) n cap) _ rfl _ _ 93 rfl rfl rfl hrun ?_; clear hrun)
    go_ret
    exact ⟨v', rfl, hown, hk2⟩
theorem cloneFibers_any (n : Nat) (oa : Option Addr) (cap : Nat) (xs : List Value) (w : World) (h : Cells w oa xs) (hx : xs.length = n * 2) (hn : n ≤ 1000) :
    Calls Tryz.prog 128 #[.slice oa n cap] w (ClonePost 95 2 n xs w) := by
  have hnil := fun u => run_isNil u 42 95 oa n cap Tryz.underlying42
  cases oa with
  | none =>
    obtain rfl := h.none
    obtain rfl : n = 0 := by simp at hx; omega
    go_enter Tryz.func128, Tryz.ntmps128
    go_wp2
    go_ret
    exact ⟨_, rfl, World.ownsRow_nil _ _ _ _, Kept.refl _⟩
  | some a =>
    obtain ⟨i0, hi0, hz0, hz1, hz2⟩ := info_parts infoFiber
    have hk1 : Kept w (w.alloc (.cells #[] 95)) := (Kept.refl w).alloc _
    obtain ⟨v', u', hrun, hown, hg⟩ := row_copied 42 95 i0 _ 2 32 Tryz.underlying42 hi0 hz0 hz1 hz2 rfl (by decide) w.heap.size w.heap.size (w.alloc (.cells #[] 95)) a n cap xs hx (h.kept hk1).at h.one (by unfold maxLen; omega) (by omega) (lays_new rfl) (Nat.le_refl _)
    have hk2 : Kept w u' := Below.grown hk1 hg (by simp) (fun j hj => by cases hj; exact Nat.le_refl _)
    clear hi0 hz0 hz1 hz2 hg hk1 h hx
    go_enter Tryz.func128, Tryz.ntmps128
    go_wp2_with (at_builtin; refine wpList_appR (v := .slice (some ⟨w.heap.size, 0, none⟩) 0 0) (u := .slice (some a) n cap) _ rfl _ _ 42 rfl rfl rfl hrun ?_; clear hrun)
    go_ret
    exact ⟨v', rfl, hown, hk2⟩
theorem ints_cells {w : World} {oa : Option Addr} {l : List Int} (hi : ∀ i z, l[i]? = some z → ∃ b o, oa = some ⟨b, o, none⟩ ∧ w.cell? ⟨b, o + i, none⟩ = some (.int .i64 z)) : Cells w oa (ints l) := by
  refine ⟨fun j x hj => ?_, fun x hx => ?_⟩
  · unfold ints at hj
    rw [List.getElem?_map] at hj
    obtain ⟨z, hz, rfl⟩ := Option.map_eq_some_iff.1 hj
    exact hi j z hz
  · obtain ⟨z, _, rfl⟩ := List.mem_map.1 hx; rfl
theorem rows_apart {u u' : World} {base e e' size size' n n' : Nat} {v v' : Value} {xs xs' : List Value} (h : u.ownsRow base e size v n xs) (h' : u'.ownsRow u.heap.size e' size' v' n' xs') : ∀ b, v.ownBlock = some b → v'.ownBlock ≠ some b := fun b e1 e2 => by
  have := (h.lt b e1).2
  have := (h'.lt b e2).1
  omega
def FramePost (x : Fr) (w : World) (en : Ending) (w' : World) : Prop :=
  ∃ v1 v2, en = .returned (.agg #[.int .i64 x.fn, .int .i64 x.at_, v1, v2]) ∧ w'.ownsRow w.heap.size 3 1 v1 x.locals.length (ints x.locals) ∧ w'.ownsRow w.heap.size 3 1 v2 x.stack.length (ints x.stack) ∧ (∀ b, v1.ownBlock = some b → v2.ownBlock ≠ some b) ∧ Kept w w'
theorem ownFrame_any (x : Fr) (vl vs : Value) (w : World) (hl : IntsW w vl x.locals) (hs : IntsW w vs x.stack) (h1 : x.locals.length ≤ 1000) (h2 : x.stack.length ≤ 1000) :
    Calls Tryz.prog 130 #[.agg #[.int .i64 x.fn, .int .i64 x.at_, vl, vs]] w (FramePost x w) := by
  obtain ⟨ol, cl, rfl, _, hli⟩ := hl
  obtain ⟨os, cs, rfl, _, hsi⟩ := hs
  have HC1 : Hid (∀ u, Kept w u → Calls Tryz.prog 91 #[.slice ol x.locals.length cl] u (ClonePost 3 1 x.locals.length (ints x.locals) u)) := hide (fun u hu => cloneInts_any _ ol cl _ u ((ints_cells hli).kept hu) (by rw [ints_len, Nat.mul_one]) h1)
  have HC2 : Hid (∀ u, Kept w u → Calls Tryz.prog 91 #[.slice os x.stack.length cs] u (ClonePost 3 1 x.stack.length (ints x.stack) u)) := hide (fun u hu => cloneInts_any _ os cs _ u ((ints_cells hsi).kept hu) (by rw [ints_len, Nat.mul_one]) h2)
  generalize hL : x.locals.length = L at *
  generalize hS : x.stack.length = S at *
  clear hli hsi
  go_enter Tryz.func130, Tryz.ntmps130
  go_wp2_with fail
  generalize hw2 : ((w.alloc (.cells #[.int .i64 x.fn, .int .i64 x.at_, .slice ol L cl, .slice os S cs] 92)).alloc (.cells #[.int .i64 0, .int .i64 0, .slice none 0 0, .slice none 0 0] 92)) = w2
  have hk2 : Kept w w2 := by rw [← hw2]; exact ((Kept.refl w).alloc _).alloc _
  have hz2 : w2.heap.size = w.heap.size + 2 := by rw [← hw2]; simp
  have lX : w2.heap[w.heap.size]? = some (.cells #[.int .i64 x.fn, .int .i64 x.at_, .slice ol L cl, .slice os S cs] 92) := by rw [← hw2]; exact lays_alloc (lays_new rfl) _
  have lR : w2.heap[w.heap.size + 1]? = some (.cells #[.int .i64 0, .int .i64 0, .slice none 0 0, .slice none 0 0] 92) := by rw [← hw2]; exact lays_new (by simp)
  clear hw2
  have hH : ∀ u, Kept w2 u → u.cell? ⟨w.heap.size, 0, none⟩ = some (.int .i64 x.fn) ∧ u.cell? ⟨w.heap.size, 1, none⟩ = some (.int .i64 x.at_) ∧ u.cell? ⟨w.heap.size, 2, none⟩ = some (.slice ol L cl) ∧ u.cell? ⟨w.heap.size, 3, none⟩ = some (.slice os S cs) :=
    fun u hu => have l := lays_kept hu lX; ⟨cell_lays l 0, cell_lays l 1, cell_lays l 2, cell_lays l 3⟩
  have HH := hide hH
  refine wp_regionP 11 [0, 1, 2, 3, 4, 5, 7, 8] (fun u => u.cell? ⟨w.heap.size, 0, none⟩ = some (.int .i64 x.fn) ∧ u.cell? ⟨w.heap.size, 1, none⟩ = some (.int .i64 x.at_) ∧ u.cell? ⟨w.heap.size, 2, none⟩ = some (.slice ol L cl) ∧ u.cell? ⟨w.heap.size, 3, none⟩ = some (.slice os S cs)) (by kernel_rfl) ?_
  have hHeld := hH w2 (Kept.refl w2)
  clear hH
  repeat
    refine takeP (v := ?_) hHeld (fun u hSu => ?_) ?_
    rotate_left
    · ((try dsimp only at hSu); go_simp) <;> with_reducible rfl
    try simp only [Act.put, List.setIfInBounds_toArray, List.set_cons_zero, List.set_cons_succ]
  refine takeP_end ?_
  refine takeT_one (i := 6) rfl (by kernel_rfl) (fun K hK => ?_)
  go_simp
  refine ((unhide HC1) _ (hk2.drew)).mono ?_
  rintro e w3 ⟨v1, rfl, ho1, hk3⟩
  obtain ⟨o1, c1, rfl, _⟩ := row_slice ho1
  have hk23 : Kept w2 w3 := ((Kept.refl w2).drew).trans hk3
  refine hK.out _ _ (fun _ => (unhide HH) w3 hk23) ?_
  clear hK K
  try simp only [Act.put, List.setIfInBounds_toArray, List.set_cons_zero, List.set_cons_succ]
  refine takeT_one (i := 9) rfl (by kernel_rfl) (fun K hK => ?_)
  go_simp
  refine ((unhide HC2) _ (hk2.trans hk23)).mono ?_
  rintro e w4 ⟨v2, rfl, ho2, hk4⟩
  obtain ⟨o2, c2, rfl, _⟩ := row_slice ho2
  have hk24 : Kept w2 w4 := hk23.trans hk4
  refine hK.out _ _ (fun _ => (unhide HH) w4 hk24) ?_
  clear hK K
  try simp only [Act.put, List.setIfInBounds_toArray, List.set_cons_zero, List.set_cons_succ]
  refine takeT_one (i := 10) rfl (by kernel_rfl) (fun K hK => ?_)
  go_simp
  refine hK.out _ _ (fun _ => (unhide HH) w4 hk24) ?_
  clear hK K
  try simp only [Act.put, List.setIfInBounds_toArray, List.set_cons_zero, List.set_cons_succ]
  have lR4 := lays_kept hk24 lR
  have r0 := cell_lays lR4 0
  have r1 := cell_lays lR4 1
  have r2 := cell_lays lR4 2
  have r3 := cell_lays lR4 3
  have f0 := frozen_lays lR4 0
  have f1 := frozen_lays lR4 1
  have f2 := frozen_lays lR4 2
  have f3 := frozen_lays lR4 3
  refine takeT_one (i := 11) rfl (by kernel_rfl) (fun K hK => ?_)
  go_simp
  refine hK.out _ _ (fun h => absurd rfl h) ?_
  clear hK K
  refine takeT_done (by kernel_rfl) ?_ _
  have lR5 := lays_set (lays_set (lays_set (lays_set lR4 0 (.int .i64 x.fn)) 1 (.int .i64 x.at_)) 2 (.slice o1 L c1)) 3 (.slice o2 S c2)
  have hne1 : (Value.slice o1 L c1).ownBlock ≠ some (w.heap.size + 1) := fun e => by have := (ho1.lt _ e).1; simp at this; omega
  have hne2 : (Value.slice o2 S c2).ownBlock ≠ some (w.heap.size + 1) := fun e => by have := (ho2.lt _ e).1; have := hk23.size; omega
  have hap := rows_apart ho1 ho2
  have q1 := row_same (w' := w4) ho1 (fun g hg => hk4.block g (ho1.lt g hg).2)
  have t1 := ownsRow_setCell_other (ownsRow_setCell_other (ownsRow_setCell_other (ownsRow_setCell_other (row_base (base := w.heap.size) q1 (by simp; omega)) (a := ⟨w.heap.size + 1, 0, none⟩) hne1 (.int .i64 x.fn)) (a := ⟨w.heap.size + 1, 1, none⟩) hne1 (.int .i64 x.at_)) (a := ⟨w.heap.size + 1, 2, none⟩) hne1 (.slice o1 L c1)) (a := ⟨w.heap.size + 1, 3, none⟩) hne1 (.slice o2 S c2)
  have t2 := ownsRow_setCell_other (ownsRow_setCell_other (ownsRow_setCell_other (ownsRow_setCell_other (row_base (base := w.heap.size) ho2 (by have := hk23.size; omega)) (a := ⟨w.heap.size + 1, 0, none⟩) hne2 (.int .i64 x.fn)) (a := ⟨w.heap.size + 1, 1, none⟩) hne2 (.int .i64 x.at_)) (a := ⟨w.heap.size + 1, 2, none⟩) hne2 (.slice o1 L c1)) (a := ⟨w.heap.size + 1, 3, none⟩) hne2 (.slice o2 S c2)
  have hk5 := ((((hk2.trans hk24).setCell (p := ⟨w.heap.size + 1, 0, none⟩) (Nat.le_succ _) (.int .i64 x.fn)).setCell (p := ⟨w.heap.size + 1, 1, none⟩) (Nat.le_succ _) (.int .i64 x.at_)).setCell (p := ⟨w.heap.size + 1, 2, none⟩) (Nat.le_succ _) (.slice o1 L c1)).setCell (p := ⟨w.heap.size + 1, 3, none⟩) (Nat.le_succ _) (.slice o2 S c2)
  generalize ((((w4.setCell ⟨w.heap.size + 1, 0, none⟩ (.int .i64 x.fn)).setCell ⟨w.heap.size + 1, 1, none⟩ (.int .i64 x.at_)).setCell ⟨w.heap.size + 1, 2, none⟩ (.slice o1 L c1)).setCell ⟨w.heap.size + 1, 3, none⟩ (.slice o2 S c2)) = w5 at *
  have z0 : w5.cell? ⟨w.heap.size + 1, 0, none⟩ = some (.int .i64 x.fn) := cell_lays lR5 0
  have z1 : w5.cell? ⟨w.heap.size + 1, 1, none⟩ = some (.int .i64 x.at_) := cell_lays lR5 1
  have z2 : w5.cell? ⟨w.heap.size + 1, 2, none⟩ = some (.slice o1 L c1) := cell_lays lR5 2
  have z3 : w5.cell? ⟨w.heap.size + 1, 3, none⟩ = some (.slice o2 S c2) := cell_lays lR5 3
  have HT := hide (And.intro t1 (And.intro t2 (And.intro hap hk5)))
  clear t1 t2 hap hk5 q1 hne1 hne2 lR5 r0 r1 r2 r3 f0 f1 f2 f3 ho1 ho2 hk3 hk4 hk23 hk24 lR4 hHeld HH HC1 HC2 lX lR
  go_wp2
  refine bodyPost_ret (v := .agg #[.int .i64 x.fn, .int .i64 x.at_, .slice o1 L c1, .slice o2 S c2]) (by simp [results, Tryz.results130, go_sem, z0, z1, z2, z3]) rfl ?_
  exact ⟨_, _, rfl, by rw [hL]; exact (unhide HT).1, by rw [hS]; exact (unhide HT).2.1, (unhide HT).2.2.1, (unhide HT).2.2.2⟩
def frCell (s : St) (t : Nat) (A : Nat → Value × Value) (k : Nat) : Value :=
  if k % 4 = 0 then .int .i64 (frAt s t (k / 4)).fn else if k % 4 = 1 then .int .i64 (frAt s t (k / 4)).at_ else if k % 4 = 2 then (A (k / 4)).1 else (A (k / 4)).2
def frCells (s : St) (t : Nat) (A : Nat → Value × Value) : List Value := (List.range ((fibAt s t).frames.length * 4)).map (frCell s t A)
theorem frCells_len (s : St) (t : Nat) (A : Nat → Value × Value) : (frCells s t A).length = (fibAt s t).frames.length * 4 := by simp [frCells]
theorem frCells_at (s : St) (t : Nat) (A : Nat → Value × Value) {k : Nat} (h : k < (fibAt s t).frames.length * 4) : (frCells s t A)[k]? = some (frCell s t A k) := by
  simp [frCells, List.getElem?_range h]
theorem frCells_four (s : St) (t : Nat) (A : Nat → Value × Value) {j : Nat} (h : j < (fibAt s t).frames.length) :
    (frCells s t A)[j * 4]? = some (.int .i64 (frAt s t j).fn) ∧ (frCells s t A)[j * 4 + 1]? = some (.int .i64 (frAt s t j).at_) ∧ (frCells s t A)[j * 4 + 2]? = some (A j).1 ∧ (frCells s t A)[j * 4 + 3]? = some (A j).2 := by
  rw [frCells_at s t A (by omega), frCells_at s t A (by omega), frCells_at s t A (by omega), frCells_at s t A (by omega)]
  unfold frCell
  have d0 : j * 4 / 4 = j := by omega
  have d1 : (j * 4 + 1) / 4 = j := by omega
  have d2 : (j * 4 + 2) / 4 = j := by omega
  have d3 : (j * 4 + 3) / 4 = j := by omega
  have m0 : j * 4 % 4 = 0 := by omega
  have m1 : (j * 4 + 1) % 4 = 1 := by omega
  have m2 : (j * 4 + 2) % 4 = 2 := by omega
  have m3 : (j * 4 + 3) % 4 = 3 := by omega
  simp [d0, d1, d2, d3, m0, m1, m2, m3]
theorem frames_source {s : St} {t : Nat} {v : Value} {w : World} (h : FramesAt w v (fibAt s t).frames) : ∃ oa cap A, v = .slice oa (fibAt s t).frames.length cap ∧ Cells w oa (frCells s t A) ∧ ∀ j, j < (fibAt s t).frames.length → IntsW w (A j).1 (frAt s t j).locals ∧ IntsW w (A j).2 (frAt s t j).stack := by
  obtain ⟨oa, cap, e, _, hi⟩ := h
  have hall : ∀ j : Nat, ∃ a : Value × Value, j < (fibAt s t).frames.length → ∃ b o, oa = some ⟨b, o, none⟩ ∧ w.cell? ⟨b, o + j * 4, none⟩ = some (.int .i64 (frAt s t j).fn) ∧ w.cell? ⟨b, o + j * 4 + 1, none⟩ = some (.int .i64 (frAt s t j).at_) ∧
      w.cell? ⟨b, o + j * 4 + 2, none⟩ = some a.1 ∧ w.cell? ⟨b, o + j * 4 + 3, none⟩ = some a.2 ∧ IntsW w a.1 (frAt s t j).locals ∧ IntsW w a.2 (frAt s t j).stack := fun j => by
    by_cases hj : j < (fibAt s t).frames.length
    · obtain ⟨b, o, vl, vs, h1, h2⟩ := hi j (frAt s t j) (getD_of_lt (fibAt s t).frames j Fr.zero hj)
      exact ⟨(vl, vs), fun _ => ⟨b, o, h1, h2⟩⟩
    · exact ⟨(.slice none 0 0, .slice none 0 0), fun h => absurd h hj⟩
  obtain ⟨A, hA⟩ := Classical.axiomOfChoice hall
  refine ⟨oa, cap, A, e, ⟨fun k x hk => ?_, fun x hx => ?_⟩, fun j hj => ?_⟩
  · have hlt : k < (fibAt s t).frames.length * 4 := by rw [← frCells_len s t A]; exact (List.getElem?_eq_some_iff.1 hk).1
    obtain ⟨b, o, e1, c0, c1, c2, c3, _⟩ := hA (k / 4) (by omega)
    refine ⟨b, o, e1, ?_⟩
    rw [frCells_at s t A hlt] at hk
    obtain rfl := Option.some.inj hk
    unfold frCell
    have hk4 : k = k / 4 * 4 + k % 4 := by omega
    have hm : k % 4 < 4 := Nat.mod_lt _ (by decide)
    by_cases m0 : k % 4 = 0
    · rw [if_pos m0, ← c0]; congr 2; omega
    · rw [if_neg m0]
      by_cases m1 : k % 4 = 1
      · rw [if_pos m1, ← c1]; congr 2; omega
      · rw [if_neg m1]
        by_cases m2 : k % 4 = 2
        · rw [if_pos m2, ← c2]; congr 2; omega
        · rw [if_neg m2, ← c3]; congr 2; omega
  · obtain ⟨k, hk, rfl⟩ := List.mem_map.1 hx
    have hlt := List.mem_range.1 hk
    obtain ⟨b, o, e1, c0, c1, c2, c3, ⟨_, _, e4, _⟩, ⟨_, _, e5, _⟩⟩ := hA (k / 4) (by omega)
    unfold frCell
    split
    · rfl
    · split
      · rfl
      · split
        · rw [e4]; rfl
        · rw [e5]; rfl
  · obtain ⟨b, o, _, _, _, _, _, h1, h2⟩ := hA j hj
    exact ⟨h1, h2⟩
def EachFr (s : St) (t : Nat) (w : World) (en : Ending) (w' : World) : Prop :=
  ∃ V, en = .returned (V (.frames t)) ∧ OwnOn (FK t (fibAt s t).frames.length) w.heap.size w' V s ∧ Kept w w'
def EachIn (s : St) (t : Nat) (A : Nat → Value × Value) (v : Value) (w : World) (k : Nat) (w' : World) : Prop :=
  ∃ V : Key → Value, V (.frames t) = v ∧ OwnOn (FK t k) w.heap.size w' V s ∧ (∀ j, k ≤ j → V (.locals t j) = (A j).1 ∧ V (.stack t j) = (A j).2) ∧ Kept w w'
theorem EachIn.start {s : St} {t : Nat} {A : Nat → Value × Value} {v : Value} {w w' : World} (h : w'.ownsRow w.heap.size 92 4 v (fibAt s t).frames.length (frCells s t A)) (hk : Kept w w') : EachIn s t A v w 0 w' := by
  refine ⟨fun | some (some (.inr (.inl (_, j)))) => (A j).1 | some (some (.inr (.inr (_, j)))) => (A j).2 | _ => v, rfl, OwnOn.frames_start h (fun j hj => frCells_four s t A hj), fun j _ => ⟨rfl, rfl⟩, hk⟩
theorem EachIn.next {s : St} {t g cap k : Nat} {A : Nat → Value × Value} {w w1 w2 : World} {v1 v2 : Value} (h : EachIn s t A (.slice (some ⟨g, 0, none⟩) (fibAt s t).frames.length cap) w k w1) (hk : k < (fibAt s t).frames.length) (hp : FramePost (frAt s t k) w1 (.returned (.agg #[.int .i64 (frAt s t k).fn, .int .i64 (frAt s t k).at_, v1, v2])) w2) :
    EachIn s t A (.slice (some ⟨g, 0, none⟩) (fibAt s t).frames.length cap) w (k + 1) ((((w2.setCell ⟨g, k * 4, none⟩ (.int .i64 (frAt s t k).fn)).setCell ⟨g, k * 4 + 1, none⟩ (.int .i64 (frAt s t k).at_)).setCell ⟨g, k * 4 + 2, none⟩ v1).setCell ⟨g, k * 4 + 3, none⟩ v2) := by
  obtain ⟨V, hV, ho, hs, hkw⟩ := h
  obtain ⟨u1, u2, e, h1, h2, ha, hk2⟩ := hp
  have e' : u1 = v1 ∧ u2 = v2 := by simpa using e.symm
  obtain ⟨rfl, rfl⟩ := e'
  have hg : w.heap.size ≤ g := ((ho.piece (.frames t) rfl).block g (by rw [hV]; rfl)).1
  refine ⟨frV V t k u1 u2, by rw [frV_ne V (by simp) (by simp)]; exact hV, ho.frame_in hkw.size hk2 hk hV h1 h2 ha, fun j hj => ?_, ?_⟩
  · rw [frV_ne V (by simp; omega) (by simp), frV_ne V (by simp) (by simp; omega)]
    exact hs j (by omega)
  · exact ((((hkw.trans hk2).setCell (p := ⟨g, k * 4, none⟩) hg _).setCell (p := ⟨g, k * 4 + 1, none⟩) hg _).setCell (p := ⟨g, k * 4 + 2, none⟩) hg _).setCell (p := ⟨g, k * 4 + 3, none⟩) hg _
theorem EachIn.cells {s : St} {t g cap k : Nat} {A : Nat → Value × Value} {w w1 : World} (h : EachIn s t A (.slice (some ⟨g, 0, none⟩) (fibAt s t).frames.length cap) w k w1) (hk : k < (fibAt s t).frames.length) :
    w1.cell? ⟨g, k * 4, none⟩ = some (.int .i64 (frAt s t k).fn) ∧ w1.cell? ⟨g, k * 4 + 1, none⟩ = some (.int .i64 (frAt s t k).at_) ∧ w1.cell? ⟨g, k * 4 + 2, none⟩ = some (A k).1 ∧ w1.cell? ⟨g, k * 4 + 3, none⟩ = some (A k).2 ∧ g < w1.heap.size ∧ ∀ j, w1.frozen? ⟨g, j, none⟩ = false := by
  obtain ⟨V, hV, ho, hs, hkw⟩ := h
  obtain ⟨xs, r1, r2⟩ := ho.piece (.frames t) rfl
  obtain ⟨x0, x1, x2, x3⟩ := r2 k hk
  rw [(hs k (Nat.le_refl _)).1] at x2
  rw [(hs k (Nat.le_refl _)).2] at x3
  rw [hV] at r1
  rcases r1 with ⟨l, ⟨h0, _⟩ | ⟨g', cap', cur, e', _, hg, hn, _, hcs, ht⟩⟩
  · cases h0
  · simp only [Value.slice.injEq, Option.some.injEq, Addr.mk.injEq] at e'
    obtain ⟨⟨rfl, _⟩, _⟩ := e'
    have hat : ∀ j u, xs[j]? = some u → w1.cell? ⟨g, j, none⟩ = some u := fun j u hj => by
      rw [cell_lays hg j, ← Array.getElem?_toList]
      rw [← ht, List.getElem?_take] at hj
      split at hj
      · exact hj
      · cases hj
    exact ⟨hat _ _ x0, hat _ _ x1, hat _ _ x2, hat _ _ x3, (Array.getElem?_eq_some_iff.1 hg).1, fun j => frozen_lays hg j⟩
theorem eachFrames_any (s : St) (t : Nat) (v : Value) (w : World) (h : FramesAt w v (fibAt s t).frames) (hn : (fibAt s t).frames.length ≤ 1000) (hsm : ∀ j, j < (fibAt s t).frames.length → (frAt s t j).locals.length ≤ 1000 ∧ (frAt s t j).stack.length ≤ 1000) :
    Calls Tryz.prog 129 #[v, .func (.func 130) #[] #[]] w (EachFr s t w) := by
  obtain ⟨oa, cap, A, rfl, hc, hA⟩ := frames_source h
  have HCL := hide (cloneFrames_any _ oa cap _ w hc (frCells_len s t A) hn)
  have HA := hide hA
  have HSM := hide hsm
  have HST := hide (fun (v : Value) (w' : World) => EachIn.start (s := s) (t := t) (A := A) (v := v) (w := w) (w' := w'))
  have HEND : Hid (∀ v w', EachIn s t A v w (fibAt s t).frames.length w' → EachFr s t w (.returned v) w') := hide (fun v w' ⟨V, hV, ho, _, hk⟩ => ⟨V, by rw [hV], ho, hk⟩)
  have HIN : Hid (∀ k w' o c, k < (fibAt s t).frames.length → EachIn s t A (.slice o (fibAt s t).frames.length c) w k w' → ∃ g, o = some ⟨g, 0, none⟩) := hide (fun k w' o c hk ⟨V, hV, ho, _, _⟩ => by
    obtain ⟨xs, r1, _⟩ := ho.piece (.frames t) rfl
    rw [hV] at r1
    rcases r1.2 with ⟨_, e⟩ | ⟨g, cap', cur, e, _⟩
    · omega
    · simp only [Value.slice.injEq] at e; exact ⟨g, e.1⟩)
  have HCE := hide (fun (g c k : Nat) (w' : World) => EachIn.cells (s := s) (t := t) (g := g) (cap := c) (k := k) (A := A) (w := w) (w1 := w'))
  have HNX := hide (fun (g c k : Nat) (w1 w2 : World) (v1 v2 : Value) => EachIn.next (s := s) (t := t) (g := g) (cap := c) (k := k) (A := A) (w := w) (w1 := w1) (w2 := w2) (v1 := v1) (v2 := v2))
  clear h hc hA hsm
  generalize hN : (fibAt s t).frames.length = n at *
  go_enter Tryz.func129, Tryz.ntmps129
  go_wp2_with fail
  refine (unhide HCL).mono ?_
  rintro e w1 ⟨v1, rfl, hr1, hk1⟩
  obtain ⟨o1, c1, rfl, _⟩ := row_slice hr1
  have HI0 : Hid (EachIn s t A (.slice o1 n c1) w 0 w1) := hide ((unhide HST) _ _ hr1 hk1)
  clear hr1 hk1 HCL HST
  go_wp2
  go_loopw [10] (fun s10 wr => ∃ k : Nat, k ≤ n ∧ s10 = .int .i64 k ∧ Hid (EachIn s t A (.slice o1 n c1) w k wr)) (fun s10 _ => n - (intOf s10).toNat)
  case atStart => exact ⟨0, Nat.zero_le _, rfl, HI0⟩
  case round =>
    obtain ⟨k, hkn, rfl, HI⟩ := hrel
    by_cases hlt : k < n
    · obtain ⟨g, rfl⟩ := (unhide HIN) k wr o1 c1 hlt (unhide HI)
      obtain ⟨e0, e1, e2, e3, hgz, hfz⟩ := (unhide HCE) g c1 k wr (unhide HI) hlt
      obtain ⟨V, hV, ho, hs, hkw⟩ := id (unhide HI)
      have hof := ownFrame_any (frAt s t k) _ _ wr (((unhide HA) k hlt).1.kept hkw) (((unhide HA) k hlt).2.kept hkw) ((unhide HSM) k hlt).1 ((unhide HSM) k hlt).2
      have HOF := hide hof
      clear hof hV ho hs hkw V
      go_wp2_with fail
      refine (unhide HOF).mono ?_
      rintro e w2 ⟨u1, u2, rfl, r1, r2, ha, hk2⟩
      obtain ⟨o3, c3, rfl, _⟩ := row_slice r1
      obtain ⟨o4, c4, rfl, _⟩ := row_slice r2
      have HI2 := hide ((unhide HNX) g c1 k wr w2 _ _ (unhide HI) hlt ⟨_, _, rfl, r1, r2, ha, hk2⟩)
      have d0 := hk2.cell e0
      have d1 := hk2.cell e1
      have d2 := hk2.cell e2
      have d3 := hk2.cell e3
      have hz2 : ∀ j, w2.frozen? ⟨g, j, none⟩ = false := fun j => by
        have := hfz j
        unfold World.frozen? at this ⊢
        rw [hk2.block g hgz]; exact this
      clear HOF r1 r2 ha hk2 e0 e1 e2 e3 hfz hgz
      generalize hL : (frAt s t k).locals.length = L at *
      generalize hS : (frAt s t k).stack.length = S at *
      clear hL hS
      go_wp2
      go_roundw
      case rel => exact ⟨k + 1, by omega, by go_num, HI2⟩
      case measure => simp [intOf]; omega
    · have hke : k = n := by omega
      have hf := unhide HI
      rw [hke] at hf
      have HF := hide hf
      clear hke hf
      go_wp2
      go_ret
      exact (unhide HEND) _ _ (unhide HF)
theorem OwnOn.low {K : Key → Prop} {base base' : Nat} {w : World} {V : Key → Value} {s : St} (h : OwnOn K base' w V s) (hb : base ≤ base') : OwnOn K base w V s := ⟨fun k hk => (h.piece k hk).low hb, h.apart⟩
theorem OwnOn.setLow {K : Key → Prop} {base : Nat} {w : World} {V : Key → Value} {s : St} (h : OwnOn K base w V s) {a : Addr} (ha : a.block < base) (u : Value) : OwnOn K base (w.setCell a u) V s :=
  h.same fun k b hk hb => Below.heap_setCell w a u b (fun e => by have := ((h.piece k hk).block b hb).1; omega)
def FiberPost (s : St) (t : Nat) (w : World) (en : Ending) (w' : World) : Prop :=
  ∃ V, en = .returned (.agg #[V (.frames t), .int .i64 (fibAt s t).caller]) ∧ OwnOn (FK t (fibAt s t).frames.length) w.heap.size w' V s ∧ Kept w w'
theorem ownFiber_any (s : St) (t : Nat) (v : Value) (w : World) (h : FramesAt w v (fibAt s t).frames) (hn : (fibAt s t).frames.length ≤ 1000) (hsm : ∀ j, j < (fibAt s t).frames.length → (frAt s t j).locals.length ≤ 1000 ∧ (frAt s t j).stack.length ≤ 1000) :
    Calls Tryz.prog 90 #[.agg #[v, .int .i64 (fibAt s t).caller]] w (FiberPost s t w) := by
  have HC : Hid (∀ u, Kept w u → Calls Tryz.prog 129 #[v, .func (.func 130) #[] #[]] u (EachFr s t u)) := hide (fun u hu => eachFrames_any s t v u (h.kept hu) hn hsm)
  obtain ⟨oa, cap, rfl, _, _⟩ := h
  clear hsm
  generalize hN : (fibAt s t).frames.length = n at *
  generalize hc : (fibAt s t).caller = c at *
  go_enter Tryz.func90, Tryz.ntmps90
  go_wp2_with fail
  generalize hw2 : ((w.alloc (.cells #[.slice oa n cap, .int .i64 c] 95)).alloc (.cells #[.slice none 0 0, .int .i64 0] 95)) = w2
  have hk2 : Kept w w2 := by rw [← hw2]; exact ((Kept.refl w).alloc _).alloc _
  have hz2 : w2.heap.size = w.heap.size + 2 := by rw [← hw2]; simp
  have lX : w2.heap[w.heap.size]? = some (.cells #[.slice oa n cap, .int .i64 c] 95) := by rw [← hw2]; exact lays_alloc (lays_new rfl) _
  have lR : w2.heap[w.heap.size + 1]? = some (.cells #[.slice none 0 0, .int .i64 0] 95) := by rw [← hw2]; exact lays_new (by simp)
  clear hw2
  have hH : ∀ u, Kept w2 u → u.cell? ⟨w.heap.size, 0, none⟩ = some (.slice oa n cap) ∧ u.cell? ⟨w.heap.size, 1, none⟩ = some (.int .i64 c) :=
    fun u hu => have l := lays_kept hu lX; ⟨cell_lays l 0, cell_lays l 1⟩
  have HH := hide hH
  refine wp_regionP 6 [0, 1, 3, 4] (fun u => u.cell? ⟨w.heap.size, 0, none⟩ = some (.slice oa n cap) ∧ u.cell? ⟨w.heap.size, 1, none⟩ = some (.int .i64 c)) (by kernel_rfl) ?_
  have hHeld := hH w2 (Kept.refl w2)
  clear hH
  repeat
    refine takeP (v := ?_) hHeld (fun u hSu => ?_) ?_
    rotate_left
    · ((try dsimp only at hSu); go_simp) <;> with_reducible rfl
    try simp only [Act.put, List.setIfInBounds_toArray, List.set_cons_zero, List.set_cons_succ]
  refine takeP_end ?_
  refine takeT_one (i := 2) rfl (by kernel_rfl) (fun K hK => ?_)
  go_simp
  refine ((unhide HC) _ (hk2.drew)).mono ?_
  rintro e w3 ⟨V, rfl, ho, hk3⟩
  have hk23 : Kept w2 w3 := ((Kept.refl w2).drew).trans hk3
  obtain ⟨xs, hr, _⟩ := ho.piece (.frames t) rfl
  obtain ⟨o1, c1, hV, _⟩ := row_slice hr
  rw [hN] at hV
  rw [hV]
  refine hK.out _ _ (fun _ => (unhide HH) w3 hk23) ?_
  clear hK K
  try simp only [Act.put, List.setIfInBounds_toArray, List.set_cons_zero, List.set_cons_succ]
  refine takeT_one (i := 5) rfl (by kernel_rfl) (fun K hK => ?_)
  go_simp
  refine hK.out _ _ (fun _ => (unhide HH) w3 hk23) ?_
  clear hK K
  try simp only [Act.put, List.setIfInBounds_toArray, List.set_cons_zero, List.set_cons_succ]
  have lR3 := lays_kept hk23 lR
  have r0 := cell_lays lR3 0
  have r1 := cell_lays lR3 1
  have f0 := frozen_lays lR3 0
  have f1 := frozen_lays lR3 1
  refine takeT_one (i := 6) rfl (by kernel_rfl) (fun K hK => ?_)
  go_simp
  refine hK.out _ _ (fun h => absurd rfl h) ?_
  clear hK K
  refine takeT_done (by kernel_rfl) ?_ _
  have lR5 := lays_set (lays_set lR3 0 (.slice o1 n c1)) 1 (.int .i64 c)
  have hz : w.heap.size + 2 ≤ (w2.drew).heap.size := by simp; omega
  have t1 := ((((ho.low hz).setLow (a := ⟨w.heap.size + 1, 0, none⟩) (by simp) (.slice o1 n c1)).setLow (a := ⟨w.heap.size + 1, 1, none⟩) (by simp) (.int .i64 c)).low (base := w.heap.size) (by omega))
  have hk5 := ((hk2.trans hk23).setCell (p := ⟨w.heap.size + 1, 0, none⟩) (Nat.le_succ _) (.slice o1 n c1)).setCell (p := ⟨w.heap.size + 1, 1, none⟩) (Nat.le_succ _) (.int .i64 c)
  generalize ((w3.setCell ⟨w.heap.size + 1, 0, none⟩ (.slice o1 n c1)).setCell ⟨w.heap.size + 1, 1, none⟩ (.int .i64 c)) = w5 at *
  have z0 : w5.cell? ⟨w.heap.size + 1, 0, none⟩ = some (.slice o1 n c1) := cell_lays lR5 0
  have z1 : w5.cell? ⟨w.heap.size + 1, 1, none⟩ = some (.int .i64 c) := cell_lays lR5 1
  have HT := hide (And.intro t1 hk5)
  have HV := hide hV
  clear t1 hk5 lR5 r0 r1 f0 f1 ho hk3 hk23 lR3 hHeld HH HC lX lR hr hV
  go_wp2
  refine bodyPost_ret (v := .agg #[.slice o1 n c1, .int .i64 c]) (by simp [results, Tryz.results90, go_sem, z0, z1]) rfl ?_
  exact ⟨V, by rw [unhide HV, hc], (unhide HT).1, (unhide HT).2⟩
def fbCell (s : St) (A : Nat → Value) (k : Nat) : Value := if k % 2 = 0 then A (k / 2) else .int .i64 (fibAt s (k / 2)).caller
def fbCells (s : St) (A : Nat → Value) : List Value := (List.range (s.fibers.length * 2)).map (fbCell s A)
theorem fbCells_len (s : St) (A : Nat → Value) : (fbCells s A).length = s.fibers.length * 2 := by simp [fbCells]
theorem fbCells_at (s : St) (A : Nat → Value) {k : Nat} (h : k < s.fibers.length * 2) : (fbCells s A)[k]? = some (fbCell s A k) := by
  simp [fbCells, List.getElem?_range h]
theorem fbCells_two (s : St) (A : Nat → Value) {j : Nat} (h : j < s.fibers.length) : (fbCells s A)[j * 2]? = some (A j) ∧ (fbCells s A)[j * 2 + 1]? = some (.int .i64 (fibAt s j).caller) := by
  rw [fbCells_at s A (by omega), fbCells_at s A (by omega)]
  unfold fbCell
  have d0 : j * 2 / 2 = j := by omega
  have d1 : (j * 2 + 1) / 2 = j := by omega
  have m0 : j * 2 % 2 = 0 := by omega
  have m1 : (j * 2 + 1) % 2 = 1 := by omega
  simp [d0, d1, m0, m1]
theorem fibers_source {s : St} {v : Value} {w : World} (h : FibersAt w v s.fibers) : ∃ oa cap A, v = .slice oa s.fibers.length cap ∧ Cells w oa (fbCells s A) ∧ ∀ j, j < s.fibers.length → FramesAt w (A j) (fibAt s j).frames := by
  obtain ⟨oa, cap, e, _, hi⟩ := h
  have hall : ∀ j : Nat, ∃ a : Value, j < s.fibers.length → ∃ b o, oa = some ⟨b, o, none⟩ ∧ w.cell? ⟨b, o + j * 2, none⟩ = some a ∧ w.cell? ⟨b, o + j * 2 + 1, none⟩ = some (.int .i64 (fibAt s j).caller) ∧ FramesAt w a (fibAt s j).frames := fun j => by
    by_cases hj : j < s.fibers.length
    · obtain ⟨b, o, vf, h1, h2⟩ := hi j (fibAt s j) (getD_of_lt s.fibers j Fb.zero hj)
      exact ⟨vf, fun _ => ⟨b, o, h1, h2⟩⟩
    · exact ⟨.slice none 0 0, fun h => absurd h hj⟩
  obtain ⟨A, hA⟩ := Classical.axiomOfChoice hall
  refine ⟨oa, cap, A, e, ⟨fun k x hk => ?_, fun x hx => ?_⟩, fun j hj => ?_⟩
  · have hlt : k < s.fibers.length * 2 := by rw [← fbCells_len s A]; exact (List.getElem?_eq_some_iff.1 hk).1
    obtain ⟨b, o, e1, c0, c1, _⟩ := hA (k / 2) (by omega)
    refine ⟨b, o, e1, ?_⟩
    rw [fbCells_at s A hlt] at hk
    obtain rfl := Option.some.inj hk
    unfold fbCell
    by_cases m0 : k % 2 = 0
    · rw [if_pos m0, ← c0]; congr 2; omega
    · rw [if_neg m0, ← c1]; congr 2; omega
  · obtain ⟨k, hk, rfl⟩ := List.mem_map.1 hx
    have hlt := List.mem_range.1 hk
    obtain ⟨b, o, e1, c0, c1, ⟨_, _, e4, _⟩⟩ := hA (k / 2) (by omega)
    unfold fbCell
    split
    · rw [e4]; rfl
    · rfl
  · obtain ⟨b, o, _, _, _, h1⟩ := hA j hj
    exact h1
def EachFb (s : St) (w : World) (en : Ending) (w' : World) : Prop := ∃ V, en = .returned (V .fibers) ∧ OwnOn (LK s s.fibers.length) w.heap.size w' V s ∧ Kept w w'
def FbIn (s : St) (A : Nat → Value) (v : Value) (w : World) (k : Nat) (w' : World) : Prop :=
  ∃ V : Key → Value, V .fibers = v ∧ OwnOn (LK s k) w.heap.size w' V s ∧ (∀ j, k ≤ j → V (.frames j) = A j) ∧ Kept w w'
theorem FbIn.start {s : St} {A : Nat → Value} {v : Value} {w w' : World} (h : w'.ownsRow w.heap.size 95 2 v s.fibers.length (fbCells s A)) (hk : Kept w w') : FbIn s A v w 0 w' :=
  ⟨fun | some (some (.inl i)) => A i | _ => v, rfl, OwnOn.fibers_start h (fun _ hj => fbCells_two s A hj), fun _ _ => rfl, hk⟩
theorem FbIn.next {s : St} {g cap k : Nat} {A : Nat → Value} {w w1 w2 : World} {v1 : Value} (h : FbIn s A (.slice (some ⟨g, 0, none⟩) s.fibers.length cap) w k w1) (hk : k < s.fibers.length) (hp : FiberPost s k w1 (.returned (.agg #[v1, .int .i64 (fibAt s k).caller])) w2) :
    FbIn s A (.slice (some ⟨g, 0, none⟩) s.fibers.length cap) w (k + 1) ((w2.setCell ⟨g, k * 2, none⟩ v1).setCell ⟨g, k * 2 + 1, none⟩ (.int .i64 (fibAt s k).caller)) := by
  obtain ⟨V, hV, ho, hs, hkw⟩ := h
  obtain ⟨V1, e, h1, hk2⟩ := hp
  obtain rfl : V1 (.frames k) = v1 := by simpa using e.symm
  have hg : w.heap.size ≤ g := ((ho.piece .fibers trivial).block g (by rw [hV]; rfl)).1
  refine ⟨fbV V V1 k, by rw [fbV_ne V V1 rfl]; exact hV, ho.fiber_in hkw.size hk2 hk hV h1, fun j hj => ?_, ?_⟩
  · rw [fbV_ne V V1 (t := k) (k := .frames j) (beq_eq_false_iff_ne.2 (by omega))]
    exact hs j (by omega)
  · exact ((hkw.trans hk2).setCell (p := ⟨g, k * 2, none⟩) hg _).setCell (p := ⟨g, k * 2 + 1, none⟩) hg _
theorem FbIn.cells {s : St} {g cap k : Nat} {A : Nat → Value} {w w1 : World} (h : FbIn s A (.slice (some ⟨g, 0, none⟩) s.fibers.length cap) w k w1) (hk : k < s.fibers.length) :
    w1.cell? ⟨g, k * 2, none⟩ = some (A k) ∧ w1.cell? ⟨g, k * 2 + 1, none⟩ = some (.int .i64 (fibAt s k).caller) ∧ g < w1.heap.size ∧ ∀ j, w1.frozen? ⟨g, j, none⟩ = false := by
  obtain ⟨V, hV, ho, hs, hkw⟩ := h
  obtain ⟨xs, r1, r2⟩ := ho.piece .fibers trivial
  obtain ⟨x0, x1⟩ := r2 k hk
  rw [hs k (Nat.le_refl _)] at x0
  rw [hV] at r1
  rcases r1 with ⟨l, ⟨h0, _⟩ | ⟨g', cap', cur, e', _, hg, hn, _, hcs, ht⟩⟩
  · cases h0
  · simp only [Value.slice.injEq, Option.some.injEq, Addr.mk.injEq] at e'
    obtain ⟨⟨rfl, _⟩, _⟩ := e'
    have hat : ∀ j u, xs[j]? = some u → w1.cell? ⟨g, j, none⟩ = some u := fun j u hj => by
      rw [cell_lays hg j, ← Array.getElem?_toList]
      rw [← ht, List.getElem?_take] at hj
      split at hj
      · exact hj
      · cases hj
    exact ⟨hat _ _ x0, hat _ _ x1, (Array.getElem?_eq_some_iff.1 hg).1, fun j => frozen_lays hg j⟩
def Short (s : St) : Prop := s.fibers.length ≤ 1000 ∧ s.out.length ≤ 1000 ∧ ∀ t, t < s.fibers.length → (fibAt s t).frames.length ≤ 1000 ∧ ∀ j, j < (fibAt s t).frames.length → (frAt s t j).locals.length ≤ 1000 ∧ (frAt s t j).stack.length ≤ 1000
theorem eachFibers_any (s : St) (v : Value) (w : World) (h : FibersAt w v s.fibers) (hn : Short s) :
    Calls Tryz.prog 89 #[v, .func (.func 90) #[] #[]] w (EachFb s w) := by
  obtain ⟨oa, cap, A, rfl, hc, hA⟩ := fibers_source h
  have HCL := hide (cloneFibers_any _ oa cap _ w hc (fbCells_len s A) hn.1)
  have HA := hide hA
  have HSM := hide hn.2.2
  have HST := hide (fun (v : Value) (w' : World) => FbIn.start (s := s) (A := A) (v := v) (w := w) (w' := w'))
  have HEND : Hid (∀ v w', FbIn s A v w s.fibers.length w' → EachFb s w (.returned v) w') := hide (fun v w' ⟨V, hV, ho, _, hk⟩ => ⟨V, by rw [hV], ho, hk⟩)
  have HIN : Hid (∀ k w' o c, k < s.fibers.length → FbIn s A (.slice o s.fibers.length c) w k w' → ∃ g, o = some ⟨g, 0, none⟩) := hide (fun k w' o c hk ⟨V, hV, ho, _, _⟩ => by
    obtain ⟨xs, r1, _⟩ := ho.piece .fibers trivial
    rw [hV] at r1
    rcases r1.2 with ⟨_, e⟩ | ⟨g, cap', cur, e, _⟩
    · omega
    · simp only [Value.slice.injEq] at e; exact ⟨g, e.1⟩)
  have HCE := hide (fun (g c k : Nat) (w' : World) => FbIn.cells (s := s) (g := g) (cap := c) (k := k) (A := A) (w := w) (w1 := w'))
  have HNX := hide (fun (g c k : Nat) (w1 w2 : World) (v1 : Value) => FbIn.next (s := s) (g := g) (cap := c) (k := k) (A := A) (w := w) (w1 := w1) (w2 := w2) (v1 := v1))
  have hn1 := hn.1
  clear h hc hA hn
  generalize hN : s.fibers.length = n at *
  go_enter Tryz.func89, Tryz.ntmps89
  go_wp2_with fail
  refine (unhide HCL).mono ?_
  rintro e w1 ⟨v1, rfl, hr1, hk1⟩
  obtain ⟨o1, c1, rfl, _⟩ := row_slice hr1
  have HI0 : Hid (FbIn s A (.slice o1 n c1) w 0 w1) := hide ((unhide HST) _ _ hr1 hk1)
  clear hr1 hk1 HCL HST
  go_wp2
  go_loopw [10] (fun s10 wr => ∃ k : Nat, k ≤ n ∧ s10 = .int .i64 k ∧ Hid (FbIn s A (.slice o1 n c1) w k wr)) (fun s10 _ => n - (intOf s10).toNat)
  case atStart => exact ⟨0, Nat.zero_le _, rfl, HI0⟩
  case round =>
    obtain ⟨k, hkn, rfl, HI⟩ := hrel
    by_cases hlt : k < n
    · obtain ⟨g, rfl⟩ := (unhide HIN) k wr o1 c1 hlt (unhide HI)
      obtain ⟨e0, e1, hgz, hfz⟩ := (unhide HCE) g c1 k wr (unhide HI) hlt
      obtain ⟨V, hV, ho, hs, hkw⟩ := id (unhide HI)
      have hof := ownFiber_any s k _ wr (((unhide HA) k hlt).kept hkw) ((unhide HSM) k hlt).1 ((unhide HSM) k hlt).2
      have HOF := hide hof
      clear hof hV ho hs hkw V
      go_wp2_with fail
      refine (unhide HOF).mono ?_
      rintro e w2 ⟨V1, rfl, r1, hk2⟩
      obtain ⟨xs, hr, _⟩ := r1.piece (.frames k) rfl
      obtain ⟨o3, c3, hV3, _⟩ := row_slice hr
      have HI2 := hide ((unhide HNX) g c1 k wr w2 _ (unhide HI) hlt ⟨V1, rfl, r1, hk2⟩)
      rw [hV3] at HI2
      rw [hV3]
      have d0 := hk2.cell e0
      have d1 := hk2.cell e1
      have hz2 : ∀ j, w2.frozen? ⟨g, j, none⟩ = false := fun j => by
        have := hfz j
        unfold World.frozen? at this ⊢
        rw [hk2.block g hgz]; exact this
      clear HOF r1 hk2 e0 e1 hfz hgz hr hV3
      generalize (fibAt s k).frames.length = L at *
      go_wp2
      go_roundw
      case rel => exact ⟨k + 1, by omega, by go_num, HI2⟩
      case measure => simp [intOf]; omega
    · have hke : k = n := by omega
      have hf := unhide HI
      rw [hke] at hf
      have HF := hide hf
      clear hke hf
      go_wp2
      go_ret
      exact (unhide HEND) _ _ (unhide HF)
end Go.Proofs.YtokhibfenccijaaGreatDoor
