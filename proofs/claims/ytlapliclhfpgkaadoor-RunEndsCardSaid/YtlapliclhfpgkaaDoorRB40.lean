/- CloneF, CloneG, StateL -/
import Derived.Test.YtlapliclhfpgkaaDoorRB39
import Derived.Test.YtlapliclhfpgkaaDoorRB18
import Derived.Test.YtlapliclhfpgkaaDoorRB24
namespace Go.Proofs.YtlapliclhfpgkaaDoor
open Go.RowKit
def fbCell (s : St) (A : Nat → Value) (k : Nat) : Value := if k % 2 = 0 then A (k / 2) else .int .i64 (fibAt s (k / 2)).caller
def fbCells (s : St) (A : Nat → Value) : List Value := (List.range (s.fibers.length * 2)).map (fbCell s A)
theorem fbCells_len (s : St) (A : Nat → Value) : (fbCells s A).length = s.fibers.length * 2 := by simp [fbCells]
theorem fbCells_at (s : St) (A : Nat → Value) {k : Nat} (h : k < s.fibers.length * 2) : (fbCells s A)[k]? = some (fbCell s A k) := by
  simp [fbCells, List.getElem?_range h]
theorem fbCells_two (s : St) (A : Nat → Value) {j : Nat} (h : j < s.fibers.length) : (fbCells s A)[j * 2]? = some (A j) ∧ (fbCells s A)[j * 2 + 1]? = some (.int .i64 (fibAt s j).caller) := by
  rw [fbCells_at s A (by omega), fbCells_at s A (by omega)]
  unfold fbCell
  have d0 : j * 2 / 2 = j := by omega
  have d1 : (j * 2 + 1) / 2 = j := by omega
  have m0 : j * 2 % 2 = 0 := by omega
  have m1 : (j * 2 + 1) % 2 = 1 := by omega
  simp [d0, d1, m0, m1]
theorem fibers_source {s : St} {v : Value} {w : World} (h : FibersAt w v s.fibers) : ∃ oa cap A, v = .slice oa s.fibers.length cap ∧ Cells w oa (fbCells s A) ∧ ∀ j, j < s.fibers.length → FramesAt w (A j) (fibAt s j).frames := by
  obtain ⟨oa, cap, e, _, hi⟩ := h
  have hall : ∀ j : Nat, ∃ a : Value, j < s.fibers.length → ∃ b o, oa = some ⟨b, o, none⟩ ∧ w.cell? ⟨b, o + j * 2, none⟩ = some a ∧ w.cell? ⟨b, o + j * 2 + 1, none⟩ = some (.int .i64 (fibAt s j).caller) ∧ FramesAt w a (fibAt s j).frames := fun j => by
    by_cases hj : j < s.fibers.length
    · obtain ⟨b, o, vf, h1, h2⟩ := hi j (fibAt s j) (getD_of_lt s.fibers j Fb.zero hj)
      exact ⟨vf, fun _ => ⟨b, o, h1, h2⟩⟩
    · exact ⟨.slice none 0 0, fun h => absurd h hj⟩
  obtain ⟨A, hA⟩ := Classical.axiomOfChoice hall
  refine ⟨oa, cap, A, e, ⟨fun k x hk => ?_, fun x hx => ?_⟩, fun j hj => ?_⟩
  · have hlt : k < s.fibers.length * 2 := by rw [← fbCells_len s A]; exact (List.getElem?_eq_some_iff.1 hk).1
    obtain ⟨b, o, e1, c0, c1, _⟩ := hA (k / 2) (by omega)
    refine ⟨b, o, e1, ?_⟩
    rw [fbCells_at s A hlt] at hk
    obtain rfl := Option.some.inj hk
    unfold fbCell
    by_cases m0 : k % 2 = 0
    · rw [if_pos m0, ← c0]; congr 2; omega
    · rw [if_neg m0, ← c1]; congr 2; omega
  · obtain ⟨k, hk, rfl⟩ := List.mem_map.1 hx
    have hlt := List.mem_range.1 hk
    obtain ⟨b, o, e1, c0, c1, ⟨_, _, e4, _⟩⟩ := hA (k / 2) (by omega)
    unfold fbCell
    split
    · rw [e4]; rfl
    · rfl
  · obtain ⟨b, o, _, _, _, h1⟩ := hA j hj
    exact h1
def EachFb (s : St) (w : World) (en : Ending) (w' : World) : Prop := ∃ V, en = .returned (V .fibers) ∧ OwnOn (LK s s.fibers.length) w.heap.size w' V s ∧ Kept w w'
def FbIn (s : St) (A : Nat → Value) (v : Value) (w : World) (k : Nat) (w' : World) : Prop :=
  ∃ V : Key → Value, V .fibers = v ∧ OwnOn (LK s k) w.heap.size w' V s ∧ (∀ j, k ≤ j → V (.frames j) = A j) ∧ Kept w w'
theorem FbIn.start {s : St} {A : Nat → Value} {v : Value} {w w' : World} (h : w'.ownsRow w.heap.size 62 2 v s.fibers.length (fbCells s A)) (hk : Kept w w') : FbIn s A v w 0 w' :=
  ⟨fun | some (some (.inl i)) => A i | _ => v, rfl, OwnOn.fibers_start h (fun _ hj => fbCells_two s A hj), fun _ _ => rfl, hk⟩
theorem FbIn.next {s : St} {g cap k : Nat} {A : Nat → Value} {w w1 w2 : World} {v1 : Value} (h : FbIn s A (.slice (some ⟨g, 0, none⟩) s.fibers.length cap) w k w1) (hk : k < s.fibers.length) (hp : FiberPost s k w1 (.returned (.agg #[v1, .int .i64 (fibAt s k).caller])) w2) :
    FbIn s A (.slice (some ⟨g, 0, none⟩) s.fibers.length cap) w (k + 1) ((w2.setCell ⟨g, k * 2, none⟩ v1).setCell ⟨g, k * 2 + 1, none⟩ (.int .i64 (fibAt s k).caller)) := by
  obtain ⟨V, hV, ho, hs, hkw⟩ := h
  obtain ⟨V1, e, h1, hk2⟩ := hp
  obtain rfl : V1 (.frames k) = v1 := by simpa using e.symm
  have hg : w.heap.size ≤ g := ((ho.piece .fibers trivial).block g (by rw [hV]; rfl)).1
  refine ⟨fbV V V1 k, by rw [fbV_ne V V1 rfl]; exact hV, ho.fiber_in hkw.size hk2 hk hV h1, fun j hj => ?_, ?_⟩
  · rw [fbV_ne V V1 (t := k) (k := .frames j) (beq_eq_false_iff_ne.2 (by omega))]
    exact hs j (by omega)
  · exact ((hkw.trans hk2).setCell (p := ⟨g, k * 2, none⟩) hg _).setCell (p := ⟨g, k * 2 + 1, none⟩) hg _
theorem FbIn.cells {s : St} {g cap k : Nat} {A : Nat → Value} {w w1 : World} (h : FbIn s A (.slice (some ⟨g, 0, none⟩) s.fibers.length cap) w k w1) (hk : k < s.fibers.length) :
    w1.cell? ⟨g, k * 2, none⟩ = some (A k) ∧ w1.cell? ⟨g, k * 2 + 1, none⟩ = some (.int .i64 (fibAt s k).caller) ∧ g < w1.heap.size ∧ ∀ j, w1.frozen? ⟨g, j, none⟩ = false := by
  obtain ⟨V, hV, ho, hs, hkw⟩ := h
  obtain ⟨xs, r1, r2⟩ := ho.piece .fibers trivial
  obtain ⟨x0, x1⟩ := r2 k hk
  rw [hs k (Nat.le_refl _)] at x0
  rw [hV] at r1
  rcases r1 with ⟨l, ⟨h0, _⟩ | ⟨g', cap', cur, e', _, hg, hn, _, hcs, ht⟩⟩
  · cases h0
  · simp only [Value.slice.injEq, Option.some.injEq, Addr.mk.injEq] at e'
    obtain ⟨⟨rfl, _⟩, _⟩ := e'
    have hat : ∀ j u, xs[j]? = some u → w1.cell? ⟨g, j, none⟩ = some u := fun j u hj => by
      rw [cell_lays hg j, ← Array.getElem?_toList]
      rw [← ht, List.getElem?_take] at hj
      split at hj
      · exact hj
      · cases hj
    exact ⟨hat _ _ x0, hat _ _ x1, (Array.getElem?_eq_some_iff.1 hg).1, fun j => frozen_lays hg j⟩
def Short (s : St) : Prop := s.fibers.length ≤ 1000 ∧ s.out.length ≤ 1000 ∧ ∀ t, t < s.fibers.length → (fibAt s t).frames.length ≤ 1000 ∧ ∀ j, j < (fibAt s t).frames.length → (frAt s t j).locals.length ≤ 1000 ∧ (frAt s t j).stack.length ≤ 1000
set_option maxRecDepth 100000 in
set_option maxHeartbeats 4000000 in
theorem eachFibers_any (s : St) (v : Value) (w : World) (h : FibersAt w v s.fibers) (hn : Short s) :
    Calls Tryd.prog 32 #[v, .func (.func 33) #[] #[]] w (EachFb s w) := by
  obtain ⟨oa, cap, A, rfl, hc, hA⟩ := fibers_source h
  have HCL := hide (cloneFibers_any _ oa cap _ w hc (fbCells_len s A) hn.1)
  have HA := hide hA
  have HSM := hide hn.2.2
  have HST := hide (fun (v : Value) (w' : World) => FbIn.start (s := s) (A := A) (v := v) (w := w) (w' := w'))
  have HEND : Hid (∀ v w', FbIn s A v w s.fibers.length w' → EachFb s w (.returned v) w') := hide (fun v w' ⟨V, hV, ho, _, hk⟩ => ⟨V, by rw [hV], ho, hk⟩)
  have HIN : Hid (∀ k w' o c, k < s.fibers.length → FbIn s A (.slice o s.fibers.length c) w k w' → ∃ g, o = some ⟨g, 0, none⟩) := hide (fun k w' o c hk ⟨V, hV, ho, _, _⟩ => by
    obtain ⟨xs, r1, _⟩ := ho.piece .fibers trivial
    rw [hV] at r1
    rcases r1.2 with ⟨_, e⟩ | ⟨g, cap', cur, e, _⟩
    · omega
    · simp only [Value.slice.injEq] at e; exact ⟨g, e.1⟩)
  have HCE := hide (fun (g c k : Nat) (w' : World) => FbIn.cells (s := s) (g := g) (cap := c) (k := k) (A := A) (w := w) (w1 := w'))
  have HNX := hide (fun (g c k : Nat) (w1 w2 : World) (v1 : Value) => FbIn.next (s := s) (g := g) (cap := c) (k := k) (A := A) (w := w) (w1 := w1) (w2 := w2) (v1 := v1))
  have hn1 := hn.1
  clear h hc hA hn
  generalize hN : s.fibers.length = n at *
  go_enter Tryd.func32, Tryd.ntmps32
  go_wp2_with fail
  refine (unhide HCL).mono ?_
  rintro e w1 ⟨v1, rfl, hr1, hk1⟩
  obtain ⟨o1, c1, rfl, _⟩ := row_slice hr1
  have HI0 : Hid (FbIn s A (.slice o1 n c1) w 0 w1) := hide ((unhide HST) _ _ hr1 hk1)
  clear hr1 hk1 HCL HST
  go_wp2
  go_loopw [10] (fun s10 wr => ∃ k : Nat, k ≤ n ∧ s10 = .int .i64 k ∧ Hid (FbIn s A (.slice o1 n c1) w k wr)) (fun s10 _ => n - (intOf s10).toNat)
  case atStart => exact ⟨0, Nat.zero_le _, rfl, HI0⟩
  case round =>
    obtain ⟨k, hkn, rfl, HI⟩ := hrel
    by_cases hlt : k < n
    · obtain ⟨g, rfl⟩ := (unhide HIN) k wr o1 c1 hlt (unhide HI)
      obtain ⟨e0, e1, hgz, hfz⟩ := (unhide HCE) g c1 k wr (unhide HI) hlt
      obtain ⟨V, hV, ho, hs, hkw⟩ := id (unhide HI)
      have hof := ownFiber_any s k _ wr (((unhide HA) k hlt).kept hkw) ((unhide HSM) k hlt).1 ((unhide HSM) k hlt).2
      have HOF := hide hof
      clear hof hV ho hs hkw V
      go_wp2_with fail
      refine (unhide HOF).mono ?_
      rintro e w2 ⟨V1, rfl, r1, hk2⟩
      obtain ⟨xs, hr, _⟩ := r1.piece (.frames k) rfl
      obtain ⟨o3, c3, hV3, _⟩ := row_slice hr
      have HI2 := hide ((unhide HNX) g c1 k wr w2 _ (unhide HI) hlt ⟨V1, rfl, r1, hk2⟩)
      rw [hV3] at HI2
      rw [hV3]
      have d0 := hk2.cell e0
      have d1 := hk2.cell e1
      have hz2 : ∀ j, w2.frozen? ⟨g, j, none⟩ = false := fun j => by
        have := hfz j
        unfold World.frozen? at this ⊢
        rw [hk2.block g hgz]; exact this
      clear HOF r1 hk2 e0 e1 hfz hgz hr hV3
      generalize (fibAt s k).frames.length = L at *
      go_wp2
      go_roundw
      case rel => exact ⟨k + 1, by omega, by go_num, HI2⟩
      case measure => simp [intOf]; omega
    · have hke : k = n := by omega
      have hf := unhide HI
      rw [hke] at hf
      have HF := hide hf
      clear hke hf
      go_wp2
      go_ret
      exact (unhide HEND) _ _ (unhide HF)
end Go.Proofs.YtlapliclhfpgkaaDoor
namespace Go.Proofs.YtlapliclhfpgkaaDoor
open Go.RowKit
def CopyPost (s : St) (w : World) (en : Ending) (w' : World) : Prop :=
  ∃ V, en = .returned (.agg #[V .fibers, .int .i64 s.now, V .out]) ∧ Own w.heap.size w' V s ∧ Kept w w'
set_option maxRecDepth 100000 in
set_option maxHeartbeats 4000000 in
theorem ownState_copy (s : St) (v : Value) (w : World) (h : StAt w v s) (hn : Short s) : Calls Tryd.prog 25 #[v] w (CopyPost s w) := by
  obtain ⟨vf, vo, rfl, hf, ho⟩ := h
  have HC1 : Hid (∀ u, Kept w u → Calls Tryd.prog 32 #[vf, .func (.func 33) #[] #[]] u (EachFb s u)) := hide (fun u hu => eachFibers_any s vf u (hf.kept hu) hn)
  obtain ⟨oa, cap, rfl, _, _⟩ := hf
  obtain ⟨oo, co, rfl, _, hoi⟩ := ho
  have HC2 : Hid (∀ u, Kept w u → Calls Tryd.prog 34 #[.slice oo s.out.length co] u (ClonePost 3 1 s.out.length (ints s.out) u)) := hide (fun u hu => cloneInts_any _ oo co _ u ((ints_cells hoi).kept hu) (by rw [ints_len, Nat.mul_one]) hn.2.1)
  have HW := hide (fun (u u1 : World) (V : Key → Value) (vo : Value) (base : Nat) => OwnOn.whole (base := base) (w := u) (w1 := u1) (V := V) (s := s) (vo := vo))
  clear hoi hn
  generalize hN : s.fibers.length = n at *
  generalize hM : s.out.length = m at *
  generalize hc : s.now = c at *
  go_enter Tryd.func25, Tryd.ntmps25
  go_wp2_with fail
  generalize hw2 : ((w.alloc (.cells #[.slice oa n cap, .int .i64 c, .slice oo m co] 35)).alloc (.cells #[.slice none 0 0, .int .i64 0, .slice none 0 0] 35)) = w2
  have hk2 : Kept w w2 := by rw [← hw2]; exact ((Kept.refl w).alloc _).alloc _
  have hz2 : w2.heap.size = w.heap.size + 2 := by rw [← hw2]; simp
  have lX : w2.heap[w.heap.size]? = some (.cells #[.slice oa n cap, .int .i64 c, .slice oo m co] 35) := by rw [← hw2]; exact lays_alloc (lays_new rfl) _
  have lR : w2.heap[w.heap.size + 1]? = some (.cells #[.slice none 0 0, .int .i64 0, .slice none 0 0] 35) := by rw [← hw2]; exact lays_new (by simp)
  clear hw2
  have hH : ∀ u, Kept w2 u → u.cell? ⟨w.heap.size, 0, none⟩ = some (.slice oa n cap) ∧ u.cell? ⟨w.heap.size, 1, none⟩ = some (.int .i64 c) ∧ u.cell? ⟨w.heap.size, 2, none⟩ = some (.slice oo m co) :=
    fun u hu => have l := lays_kept hu lX; ⟨cell_lays l 0, cell_lays l 1, cell_lays l 2⟩
  have HH := hide hH
  refine wp_regionP 9 [0, 1, 3, 4, 5, 6] (fun u => u.cell? ⟨w.heap.size, 0, none⟩ = some (.slice oa n cap) ∧ u.cell? ⟨w.heap.size, 1, none⟩ = some (.int .i64 c) ∧ u.cell? ⟨w.heap.size, 2, none⟩ = some (.slice oo m co)) (by kernel_rfl) ?_
  have hHeld := hH w2 (Kept.refl w2)
  clear hH
  repeat
    refine takeP (v := ?_) hHeld (fun u hSu => ?_) ?_
    rotate_left
    · ((try dsimp only at hSu); go_simp) <;> with_reducible rfl
    try simp only [Act.put, List.setIfInBounds_toArray, List.set_cons_zero, List.set_cons_succ]
  refine takeP_end ?_
  refine takeT_one (i := 2) rfl (by kernel_rfl) (fun K hK => ?_)
  go_simp
  refine ((unhide HC1) _ (hk2.drew)).mono ?_
  rintro e w3 ⟨V, rfl, ho, hk3⟩
  have hk23 : Kept w2 w3 := ((Kept.refl w2).drew).trans hk3
  obtain ⟨xs, hr, _⟩ := ho.piece .fibers trivial
  obtain ⟨o1, c1, hV, _⟩ := row_slice hr
  rw [hN] at hV
  rw [hV]
  refine hK.out _ _ (fun _ => (unhide HH) w3 hk23) ?_
  clear hK K
  try simp only [Act.put, List.setIfInBounds_toArray, List.set_cons_zero, List.set_cons_succ]
  refine takeT_one (i := 7) rfl (by kernel_rfl) (fun K hK => ?_)
  go_simp
  refine ((unhide HC2) _ (hk2.trans hk23)).mono ?_
  rintro e w4 ⟨v4, rfl, ho4, hk4⟩
  obtain ⟨o2, c2, rfl, _⟩ := row_slice ho4
  have hk24 : Kept w2 w4 := hk23.trans hk4
  refine hK.out _ _ (fun _ => (unhide HH) w4 hk24) ?_
  clear hK K
  try simp only [Act.put, List.setIfInBounds_toArray, List.set_cons_zero, List.set_cons_succ]
  refine takeT_one (i := 8) rfl (by kernel_rfl) (fun K hK => ?_)
  go_simp
  refine hK.out _ _ (fun _ => (unhide HH) w4 hk24) ?_
  clear hK K
  try simp only [Act.put, List.setIfInBounds_toArray, List.set_cons_zero, List.set_cons_succ]
  have lR4 := lays_kept hk24 lR
  have r0 := cell_lays lR4 0
  have r1 := cell_lays lR4 1
  have r2 := cell_lays lR4 2
  have f0 := frozen_lays lR4 0
  have f1 := frozen_lays lR4 1
  have f2 := frozen_lays lR4 2
  refine takeT_one (i := 9) rfl (by kernel_rfl) (fun K hK => ?_)
  go_simp
  refine hK.out _ _ (fun h => absurd rfl h) ?_
  clear hK K
  refine takeT_done (by kernel_rfl) ?_ _
  have lR5 := lays_set (lays_set (lays_set lR4 0 (.slice o1 n c1)) 1 (.int .i64 c)) 2 (.slice o2 m c2)
  have hz : w.heap.size + 2 ≤ (w2.drew).heap.size := by simp; omega
  have hz3 : w.heap.size + 2 ≤ w3.heap.size := by have := hk23.size; omega
  have hown : Own (w.heap.size + 2) w4 (upd V .out (.slice o2 m c2)) s := (unhide HW) w3 w4 V (.slice o2 m c2) (w.heap.size + 2) (by rw [← hN]; exact ho.low hz) hz3 hk4 ho4
  have hoff : Own.off (upd V .out (.slice o2 m c2)) s (w.heap.size + 1) := hown.new_off (.inr (by omega))
  have t1 : Own (w.heap.size + 2) _ _ _ := ((hown.setOff (a := ⟨w.heap.size + 1, 0, none⟩) hoff (.slice o1 n c1)).setOff (a := ⟨w.heap.size + 1, 1, none⟩) hoff (.int .i64 c)).setOff (a := ⟨w.heap.size + 1, 2, none⟩) hoff (.slice o2 m c2)
  have hk5 := (((hk2.trans hk24).setCell (p := ⟨w.heap.size + 1, 0, none⟩) (Nat.le_succ _) (.slice o1 n c1)).setCell (p := ⟨w.heap.size + 1, 1, none⟩) (Nat.le_succ _) (.int .i64 c)).setCell (p := ⟨w.heap.size + 1, 2, none⟩) (Nat.le_succ _) (.slice o2 m c2)
  generalize (((w4.setCell ⟨w.heap.size + 1, 0, none⟩ (.slice o1 n c1)).setCell ⟨w.heap.size + 1, 1, none⟩ (.int .i64 c)).setCell ⟨w.heap.size + 1, 2, none⟩ (.slice o2 m c2)) = w5 at *
  have z0 : w5.cell? ⟨w.heap.size + 1, 0, none⟩ = some (.slice o1 n c1) := cell_lays lR5 0
  have z1 : w5.cell? ⟨w.heap.size + 1, 1, none⟩ = some (.int .i64 c) := cell_lays lR5 1
  have z2 : w5.cell? ⟨w.heap.size + 1, 2, none⟩ = some (.slice o2 m c2) := cell_lays lR5 2
  have t2 : Own w.heap.size w5 (upd V .out (.slice o2 m c2)) s := ⟨fun k hk => (t1.piece k hk).low (by omega), t1.apart⟩
  have HT := hide (And.intro t2 hk5)
  have HV := hide hV
  clear t1 t2 hk5 lR5 r0 r1 r2 f0 f1 f2 ho hk3 hk4 hk23 hk24 lR4 hHeld HH HC1 HC2 lX lR hr hV ho4 hown hoff HW
  go_wp2
  refine bodyPost_ret (v := .agg #[.slice o1 n c1, .int .i64 c, .slice o2 m c2]) (by simp [results, Tryd.results25, go_sem, z0, z1, z2]) rfl ?_
  exact ⟨upd V .out (.slice o2 m c2), by rw [upd_same, upd_ne V _ (by simp), unhide HV, hc], (unhide HT).1, (unhide HT).2⟩
end Go.Proofs.YtlapliclhfpgkaaDoor
namespace Go.Proofs.YtlapliclhfpgkaaDoor
open Go.RowKit
theorem hlen_of {p : List Fn} (h : progS p = 0) : HLen p := fun _ hk => (cons_code h hk).1.len
theorem hbound_of {p : List Fn} (h : progS p = 0) : HBound p := fun k a hk => by
  have := hgt_le h hk a
  omega
end Go.Proofs.YtlapliclhfpgkaaDoor
