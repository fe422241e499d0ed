/-
  From the reading of a state that is handed in to how it lies in memory.
  A state of one's own: what its cells hold; the variable that holds it, turned.
  The machine, plain: what G1, G2 and H1 say, on lists and integers.
  The reference's machine: top, push.
-/
import Derived.Test.YtgdcecibfoganacDoorSR14
import Derived.Test.YtgdcecibfoganacDoorSR17
import Derived.Lib.SmallJoins
import Derived.Test.YtgdcecibfoganacDoorSR15
import Derived.Test.YtgdcecibfoganacDoorSR10

namespace Go.Proofs.YtgdcecibfoganacDoor
open Go.RowKit Go.ChangeShapes Go.WideShapes Go.ChangeAt

theorem cellsInts : Tryd.prog.cellsOf 24 = 1 := by kernel_rfl
theorem cellsFrame : Tryd.prog.cellsOf 35 = 4 := by kernel_rfl
theorem cellsFrames : Tryd.prog.cellsOf 31 = 1 := by kernel_rfl
theorem cellsFiber : Tryd.prog.cellsOf 33 = 2 := by kernel_rfl
theorem cellsFibers : Tryd.prog.cellsOf 23 = 1 := by kernel_rfl
theorem cellsState : Tryd.prog.cellsOf 26 = 3 := by kernel_rfl
theorem bytesIntT : Tryd.prog.bytesOf 3 = 8 := by kernel_rfl
theorem bytesFrame : Tryd.prog.bytesOf 35 = 64 := by kernel_rfl
theorem bytesFiber : Tryd.prog.bytesOf 33 = 32 := by kernel_rfl
theorem typeFrame : ∃ f0 f1 f2 f3 : Field, Tryd.prog.underlying 35 = some (.struct #[f0, f1, f2, f3]) ∧ f0.type = 3 ∧ f0.offset = 0 ∧ f1.type = 3 ∧ f1.offset = 1 ∧ f2.type = 24 ∧ f2.offset = 2 ∧ f3.type = 24 ∧ f3.offset = 3 := ⟨_, _, _, _, Tryd.underlying35, rfl, rfl, rfl, rfl, rfl, rfl, rfl, rfl⟩
theorem typeFiber : ∃ f0 f1 : Field, Tryd.prog.underlying 33 = some (.struct #[f0, f1]) ∧ f0.type = 31 ∧ f0.offset = 0 ∧ f1.type = 3 ∧ f1.offset = 1 := ⟨_, _, Tryd.underlying33, rfl, rfl, rfl, rfl⟩
theorem typeState : ∃ f0 f1 f2 : Field, Tryd.prog.underlying 26 = some (.struct #[f0, f1, f2]) ∧ f0.type = 23 ∧ f0.offset = 0 ∧ f1.type = 3 ∧ f1.offset = 1 ∧ f2.type = 24 ∧ f2.offset = 2 := ⟨_, _, _, Tryd.underlying26, rfl, rfl, rfl, rfl, rfl, rfl⟩

section
variable {H : Type} {enc : TypeId × Value → H} {w : World} {base : Nat} {spare : Nat → Bool} {held : Bool}

/-- A slice of integers. -/
theorem open_ints {fuel : Nat} {v : Value} {x : DataW H × List MemPlace} (h : DataW.trod enc Tryd.prog w base spare held fuel 24 [v] = some x) (hw : ∀ n, n ∈ x.1.weights Tryd.prog 24 → n ≤ reachBytes) : ∃ l, IntsW w v l := by
  rcases Deep.open_slice Tryd.underlying24 h with ⟨e, _⟩ | ⟨a, len, cap, m, n, D, Pl, e, _, hlc, _, hm, hx, hi⟩
  · simp at e
    subst e
    exact ⟨[], IntsW.nil _⟩
  · simp at e
    subst e
    have hlm : len ≤ m := by rw [hm]; split <;> omega
    have hlen : len * 8 ≤ 140737488351232 := by
      have := hw ((((List.range len).map D).length + ((List.range (m - len)).map fun j => D (len + j)).length) * Tryd.prog.bytesOf 3) (by rw [hx]; simp [DataW.weights, Tryd.underlying24])
      rw [bytesIntT, reach_eq] at this
      simp at this
      omega
    have hall : ∀ i, i < len → ∃ y : Int, w.cell? (a.add (i * 1)) = some (.int .i64 y) := by
      intro i hil
      obtain ⟨cs', hc, ht⟩ := hi i (by omega)
      rw [cellsInt] at hc
      obtain ⟨_, hcl, hcell⟩ := World.cells?_some hc
      obtain ⟨k, e0, _, _⟩ := DataW.trod_int Tryd.underlying3 ht
      subst e0
      refine ⟨k, ?_⟩
      have := hcell 0 (by omega); rw [Deep.add_add] at this; simpa using this
    obtain ⟨g, hg⟩ := Deep.choose_lt hall
    refine ⟨(List.range len).map g, some a, cap, by simp, by simp; omega, fun i y hy => ?_⟩
    rw [List.getElem?_map, Option.map_eq_some_iff] at hy
    obtain ⟨j, hj, rfl⟩ := hy
    have hjl : i < len := by simpa using (List.getElem?_eq_some_iff.1 hj).1
    obtain rfl : i = j := by simpa [hjl] using hj
    have hs : a.spot = none := by
      have := hg 0 (by omega)
      exact spot_none (by simpa [Addr.add] using this)
    refine ⟨a.block, a.off, by cases a; simp_all, ?_⟩
    have := hg i hjl; rwa [add_of_spot hs, Nat.mul_one] at this

/-- A slice of frames. -/
theorem open_frames {fuel : Nat} {v : Value} {x : DataW H × List MemPlace} (h : DataW.trod enc Tryd.prog w base spare held fuel 31 [v] = some x) (hw : ∀ n, n ∈ x.1.weights Tryd.prog 31 → n ≤ reachBytes) : ∃ l, FramesAt w v l := by
  rcases Deep.open_slice Tryd.underlying31 h with ⟨e, _⟩ | ⟨a, len, cap, m, n, D, Pl, e, _, hlc, _, hm, hx, hi⟩
  · simp at e
    subst e
    exact ⟨[], FramesAt.nil _⟩
  · simp at e
    subst e
    have hlm : len ≤ m := by rw [hm]; split <;> omega
    have hlen : len * 64 ≤ 140737488351232 := by
      have := hw ((((List.range len).map D).length + ((List.range (m - len)).map fun j => D (len + j)).length) * Tryd.prog.bytesOf 35) (by rw [hx]; simp [DataW.weights, Tryd.underlying31])
      rw [bytesFrame, reach_eq] at this
      simp at this
      omega
    have hall : ∀ i, i < len → ∃ y : Fr × Value × Value, w.cell? (a.add (i * 4)) = some (.int .i64 y.1.fn) ∧ w.cell? (a.add (i * 4 + 1)) = some (.int .i64 y.1.at_) ∧ w.cell? (a.add (i * 4 + 2)) = some y.2.1 ∧ w.cell? (a.add (i * 4 + 3)) = some y.2.2 ∧ IntsW w y.2.1 y.1.locals ∧ IntsW w y.2.2 y.1.stack := by
      intro i hil
      obtain ⟨cs', hc, ht⟩ := hi i (by omega)
      rw [cellsFrame] at hc
      obtain ⟨_, hcl, hcell⟩ := World.cells?_some hc
      obtain ⟨f0, f1, f2, f3, hu, t0, o0, t1, o1, t2, o2, t3, o3⟩ := typeFrame
      obtain ⟨y0, y1, y2, y3, n', hy, _, g0, g1, g2, g3⟩ := Joins.trod_struct4 hu ht
      rw [t0, o0, cellsInt] at g0
      rw [t1, o1, cellsInt] at g1
      rw [t2, o2, cellsInts] at g2
      rw [t3, o3, cellsInts] at g3
      obtain ⟨fn, e0, r0, _⟩ := DataW.trod_int Tryd.underlying3 g0
      obtain ⟨at_, e1, r1, _⟩ := DataW.trod_int Tryd.underlying3 g1
      match cs', hcl with
      | [c0, c1, c2, c3], _ =>
        simp at e0 e1
        subst e0 e1
        simp only [List.drop, List.take] at g2 g3
        have hD : D i = .agg [y0.1, y1.1, y2.1, y3.1] := congrArg Prod.fst hy
        have hmem : ∀ q, (q ∈ y2.1.weights Tryd.prog 24 ∨ q ∈ y3.1.weights Tryd.prog 24) → q ≤ reachBytes := fun q hq => hw q (by
          rw [hx]
          simp only [DataW.weights, Tryd.underlying31, List.mem_cons, List.mem_append]
          refine Or.inr (Or.inl (weightsAll_mem (d := D i) (List.mem_map.2 ⟨i, by simpa using hil, rfl⟩) q ?_))
          rw [hD]
          simp only [DataW.weights, hu, DataW.weightsEach, List.map_cons, List.map_nil, t0, t1, t2, t3, List.mem_append]
          rcases hq with hq | hq
          · exact Or.inr (Or.inr (Or.inl hq))
          · exact Or.inr (Or.inr (Or.inr (Or.inl hq))))
        obtain ⟨l2, h2⟩ := open_ints g2 (fun q hq => hmem q (.inl hq))
        obtain ⟨l3, h3⟩ := open_ints g3 (fun q hq => hmem q (.inr hq))
        refine ⟨(⟨fn, at_, l2, l3⟩, c2, c3), ?_, ?_, ?_, ?_, h2, h3⟩
        · have := hcell 0 (by omega); rw [Deep.add_add] at this; simpa using this
        · have := hcell 1 (by omega); rw [Deep.add_add] at this; simpa using this
        · have := hcell 2 (by omega); rw [Deep.add_add] at this; simpa using this
        · have := hcell 3 (by omega); rw [Deep.add_add] at this; simpa using this
    have : Inhabited (Fr × Value × Value) := ⟨(Fr.zero, .nilIface, .nilIface)⟩
    obtain ⟨g, hg⟩ := Deep.choose_lt hall
    refine ⟨(List.range len).map fun i => (g i).1, some a, cap, by simp, ⟨by simp; omega, by simpa using hlc⟩, fun i y hy => ?_⟩
    rw [List.getElem?_map, Option.map_eq_some_iff] at hy
    obtain ⟨j, hj, rfl⟩ := hy
    have hjl : i < len := by simpa using (List.getElem?_eq_some_iff.1 hj).1
    obtain rfl : i = j := by simpa [hjl] using hj
    have hs : a.spot = none := by
      have := (hg 0 (by omega)).1
      simp only [Nat.zero_mul] at this
      exact spot_none (by simpa [Addr.add] using this)
    obtain ⟨k0, k1, k2, k3, k4, k5⟩ := hg i hjl
    refine ⟨a.block, a.off, (g i).2.1, (g i).2.2, by cases a; simp_all, ?_, ?_, ?_, ?_, k4, k5⟩
    · rwa [add_of_spot hs] at k0
    · rwa [add_of_spot hs, ← Nat.add_assoc] at k1
    · rwa [add_of_spot hs, ← Nat.add_assoc] at k2
    · rwa [add_of_spot hs, ← Nat.add_assoc] at k3

/-- A slice of fibers. -/
theorem open_fibers {fuel : Nat} {v : Value} {x : DataW H × List MemPlace} (h : DataW.trod enc Tryd.prog w base spare held fuel 23 [v] = some x) (hw : ∀ n, n ∈ x.1.weights Tryd.prog 23 → n ≤ reachBytes) : ∃ l, FibersAt w v l := by
  rcases Deep.open_slice Tryd.underlying23 h with ⟨e, _⟩ | ⟨a, len, cap, m, n, D, Pl, e, _, hlc, _, hm, hx, hi⟩
  · simp at e
    subst e
    exact ⟨[], FibersAt.nil _⟩
  · simp at e
    subst e
    have hlm : len ≤ m := by rw [hm]; split <;> omega
    have hlen : len * 32 ≤ 140737488351232 := by
      have := hw ((((List.range len).map D).length + ((List.range (m - len)).map fun j => D (len + j)).length) * Tryd.prog.bytesOf 33) (by rw [hx]; simp [DataW.weights, Tryd.underlying23])
      rw [bytesFiber, reach_eq] at this
      simp at this
      omega
    have hall : ∀ i, i < len → ∃ y : Fb × Value, w.cell? (a.add (i * 2)) = some y.2 ∧ w.cell? (a.add (i * 2 + 1)) = some (.int .i64 y.1.caller) ∧ FramesAt w y.2 y.1.frames := by
      intro i hil
      obtain ⟨cs', hc, ht⟩ := hi i (by omega)
      rw [cellsFiber] at hc
      obtain ⟨_, hcl, hcell⟩ := World.cells?_some hc
      obtain ⟨f0, f1, hu, t0, o0, t1, o1⟩ := typeFiber
      obtain ⟨y0, y1, n', hy, _, g0, g1⟩ := trod_struct2 hu ht
      rw [t0, o0, cellsFrames] at g0
      rw [t1, o1, cellsInt] at g1
      obtain ⟨ca, e1, r1, _⟩ := DataW.trod_int Tryd.underlying3 g1
      match cs', hcl with
      | [c0, c1], _ =>
        simp at e1
        subst e1
        simp only [List.drop, List.take] at g0
        have hD : D i = .agg [y0.1, y1.1] := congrArg Prod.fst hy
        obtain ⟨l0, h0⟩ := open_frames g0 (fun q hq => hw q (by
          rw [hx]
          simp only [DataW.weights, Tryd.underlying23, List.mem_cons, List.mem_append]
          refine Or.inr (Or.inl (weightsAll_mem (d := D i) (List.mem_map.2 ⟨i, by simpa using hil, rfl⟩) q ?_))
          rw [hD]
          simp only [DataW.weights, hu, DataW.weightsEach, List.map_cons, List.map_nil, t0, t1, List.mem_append]
          exact Or.inl hq))
        refine ⟨(⟨l0, ca⟩, c0), ?_, ?_, h0⟩
        · have := hcell 0 (by omega); rw [Deep.add_add] at this; simpa using this
        · have := hcell 1 (by omega); rw [Deep.add_add] at this; simpa using this
    have : Inhabited (Fb × Value) := ⟨(Fb.zero, .nilIface)⟩
    obtain ⟨g, hg⟩ := Deep.choose_lt hall
    refine ⟨(List.range len).map fun i => (g i).1, some a, cap, by simp, by simp; omega, fun i y hy => ?_⟩
    rw [List.getElem?_map, Option.map_eq_some_iff] at hy
    obtain ⟨j, hj, rfl⟩ := hy
    have hjl : i < len := by simpa using (List.getElem?_eq_some_iff.1 hj).1
    obtain rfl : i = j := by simpa [hjl] using hj
    have hs : a.spot = none := by
      have := (hg 0 (by omega)).1
      simp only [Nat.zero_mul] at this
      exact spot_none (by simpa [Addr.add] using this)
    obtain ⟨k0, k1, k2⟩ := hg i hjl
    refine ⟨a.block, a.off, (g i).2, by cases a; simp_all, ?_, ?_, k2⟩
    · rwa [add_of_spot hs] at k0
    · rwa [add_of_spot hs, ← Nat.add_assoc] at k1

/-- A state, its three cells. -/
theorem open_state {fuel : Nat} {cs : List Value} {x : DataW H × List MemPlace} (h : DataW.trod enc Tryd.prog w base spare held fuel 26 cs = some x) (hw : ∀ n, n ∈ x.1.weights Tryd.prog 26 → n ≤ reachBytes) : ∃ s, StAt w (.agg cs.toArray) s := by
  obtain ⟨f0, f1, f2, hu, t0, o0, t1, o1, t2, o2⟩ := typeState
  obtain ⟨y0, y1, y2, n', hy, hl, g0, g1, g2⟩ := Deep.trod_struct3 hu h
  rw [t0, o0, cellsFibers] at g0
  rw [t1, o1, cellsInt] at g1
  rw [t2, o2, cellsInts] at g2
  obtain ⟨nw, e1, r1, _⟩ := DataW.trod_int Tryd.underlying3 g1
  rw [cellsState] at hl
  match cs, hl with
  | [c0, c1, c2], _ =>
    simp at e1
    subst e1
    simp only [List.drop, List.take] at g0 g2
    have hD : x.1 = .agg [y0.1, y1.1, y2.1] := congrArg Prod.fst hy
    have hmem : ∀ q, (q ∈ y0.1.weights Tryd.prog 23 ∨ q ∈ y2.1.weights Tryd.prog 24) → q ≤ reachBytes := fun q hq => hw q (by
      rw [hD]
      simp only [DataW.weights, hu, DataW.weightsEach, List.map_cons, List.map_nil, t0, t1, t2, List.mem_append]
      rcases hq with hq | hq
      · exact Or.inl hq
      · exact Or.inr (Or.inr (Or.inl hq)))
    obtain ⟨lf, h0⟩ := open_fibers g0 (fun q hq => hmem q (.inl hq))
    obtain ⟨lo, h2⟩ := open_ints g2 (fun q hq => hmem q (.inr hq))
    exact ⟨⟨lf, nw, lo⟩, c0, c2, rfl, h0, h2⟩
end
end Go.Proofs.YtgdcecibfoganacDoor

namespace Go.Proofs.YtgdcecibfoganacDoor
open Go.RowKit

theorem row_some {w : World} {base : Nat} {e : TypeId} {size : Nat} {v : Value} {n : Nat} {xs : List Value} (h : w.ownsRow base e size v n xs) (hn : 0 < n) :
    ∃ g cap, v = .slice (some ⟨g, 0, none⟩) n cap ∧ n ≤ cap ∧ (∀ j u, xs[j]? = some u → w.cell? ⟨g, j, none⟩ = some u) ∧ (∀ j, w.frozen? ⟨g, j, none⟩ = false) ∧ base ≤ g := by
  rcases h.2 with ⟨_, h0⟩ | ⟨g, cap, cur, rfl, hb, hg, hnc, hcm, hcs, htake⟩
  · omega
  · refine ⟨g, cap, rfl, hnc, fun j u hu => ?_, fun j => h.frozenAt j, hb⟩
    have hjl : j < n * size := by rw [← h.1]; exact (List.getElem?_eq_some_iff.1 hu).1
    rw [h.cellAt j hjl]; exact hu

/-- A fiber's cells. -/
theorem Own.fib {base : Nat} {w : World} {V : Key → Value} {s : St} (h : Own base w V s) {i : Nat} (hi : i < s.fibers.length) :
    ∃ gF capF, V .fibers = .slice (some ⟨gF, 0, none⟩) s.fibers.length capF ∧ s.fibers.length ≤ capF ∧ w.cell? ⟨gF, i * 2, none⟩ = some (V (.frames i)) ∧ w.cell? ⟨gF, i * 2 + 1, none⟩ = some (.int .i64 (fibAt s i).caller) ∧ (∀ j, w.frozen? ⟨gF, j, none⟩ = false) ∧ base ≤ gF := by
  obtain ⟨xs, h1, h2⟩ := h.piece .fibers trivial
  obtain ⟨g, cap, e, hc, hx, hf, hb⟩ := row_some h1 (by omega)
  obtain ⟨q0, q1⟩ := h2 i hi
  exact ⟨g, cap, e, hc, hx _ _ q0, hx _ _ q1, hf, hb⟩
/-- A frame's cells. -/
theorem Own.fr {base : Nat} {w : World} {V : Key → Value} {s : St} (h : Own base w V s) {i j : Nat} (hi : i < s.fibers.length) (hj : j < (fibAt s i).frames.length) :
    ∃ g cap, V (.frames i) = .slice (some ⟨g, 0, none⟩) (fibAt s i).frames.length cap ∧ (fibAt s i).frames.length ≤ cap ∧ w.cell? ⟨g, j * 4, none⟩ = some (.int .i64 (frAt s i j).fn) ∧ w.cell? ⟨g, j * 4 + 1, none⟩ = some (.int .i64 (frAt s i j).at_) ∧ w.cell? ⟨g, j * 4 + 2, none⟩ = some (V (.locals i j)) ∧ w.cell? ⟨g, j * 4 + 3, none⟩ = some (V (.stack i j)) ∧ (∀ t, w.frozen? ⟨g, t, none⟩ = false) ∧ base ≤ g := by
  obtain ⟨xs, h1, h2⟩ := h.piece (.frames i) hi
  obtain ⟨g, cap, e, hc, hx, hf, hb⟩ := row_some h1 (by omega)
  obtain ⟨q0, q1, q2, q3⟩ := h2 j hj
  exact ⟨g, cap, e, hc, hx _ _ q0, hx _ _ q1, hx _ _ q2, hx _ _ q3, hf, hb⟩
theorem Own.stk {base : Nat} {w : World} {V : Key → Value} {s : St} (h : Own base w V s) {i j : Nat} (hi : i < s.fibers.length) (hj : j < (fibAt s i).frames.length) : w.ownsRow base 3 1 (V (.stack i j)) (frAt s i j).stack.length (ints (frAt s i j).stack) := h.piece (.stack i j) ⟨hi, hj⟩
theorem Own.loc {base : Nat} {w : World} {V : Key → Value} {s : St} (h : Own base w V s) {i j : Nat} (hi : i < s.fibers.length) (hj : j < (fibAt s i).frames.length) : w.ownsRow base 3 1 (V (.locals i j)) (frAt s i j).locals.length (ints (frAt s i j).locals) := h.piece (.locals i j) ⟨hi, hj⟩

theorem OwnVar.same {base bs : Nat} {w w' : World} {V : Key → Value} {s : St} (h : OwnVar base w bs V s) (hh : w'.heap = w.heap) : OwnVar base w' bs V s :=
  ⟨by rw [hh]; exact h.var, h.own.same (fun k g _ _ => by rw [hh]), h.off, h.low⟩
theorem OwnVar.alloc {base bs : Nat} {w : World} {V : Key → Value} {s : St} (h : OwnVar base w bs V s) (o : Obj) : OwnVar base (w.alloc o) bs V s :=
  ⟨by rw [Below.heap_alloc w o bs (lt_of_block h.var)]; exact h.var, h.own.alloc o, h.off, h.low⟩
/-- The cells of the variable. -/
theorem OwnVar.cells {base bs : Nat} {w : World} {V : Key → Value} {s : St} (h : OwnVar base w bs V s) : w.cell? ⟨bs, 0, none⟩ = some (V .fibers) ∧ w.cell? ⟨bs, 1, none⟩ = some (.int .i64 s.now) ∧ w.cell? ⟨bs, 2, none⟩ = some (V .out) ∧ ∀ j, w.frozen? ⟨bs, j, none⟩ = false := by
  have hv := h.var
  refine ⟨?_, ?_, ?_, fun j => ?_⟩ <;> simp [World.cell?, World.frozen?, hv]
/-- Now is set. -/
theorem OwnVar.setNow {base bs : Nat} {w : World} {V : Key → Value} {s : St} (h : OwnVar base w bs V s) (n : Int) : OwnVar base (w.setCell ⟨bs, 1, none⟩ (.int .i64 n)) bs V { s with now := n } := by
  refine ⟨?_, (h.own.setOff (a := ⟨bs, 1, none⟩) h.off _).now n, ?_, h.low⟩
  · have := h.var
    simp [World.setCell, Array.getElem?_modify, this]
  · intro k hk
    exact h.off k (by cases k <;> exact hk)
/-- A turn of the lists, the variable's own block left alone: V's fibers and out as they were. -/
theorem OwnVar.turn {base bs : Nat} {w w' : World} {V V' : Key → Value} {s s' : St} (h : OwnVar base w bs V s) (ho : Own base w' V' s') (hb : w'.heap[bs]? = w.heap[bs]?) (hf : V' .fibers = V .fibers) (hout : V' .out = V .out) (hn : s'.now = s.now) (hoff : Own.off V' s' bs) : OwnVar base w' bs V' s' :=
  ⟨by rw [hb, h.var, hf, hout, hn], ho, hoff, h.low⟩
end Go.Proofs.YtgdcecibfoganacDoor

namespace Go.Proofs.YtgdcecibfoganacDoor

def Fb.top (b : Fb) : Fr := b.frames.getLast?.getD Fr.zero
def St.fib (s : St) (n : Int) : Fb := s.fibers.getD n.toNat Fb.zero
/-- The fiber n is turned. -/
def St.turn (s : St) (n : Int) (g : Fb → Fb) : St := { s with fibers := s.fibers.set n.toNat (g (s.fib n)) }
def Fb.turnTop (b : Fb) (g : Fr → Fr) : Fb := { b with frames := b.frames.set (b.frames.length - 1) (g b.top) }
def St.top (s : St) : Fr := (s.fib s.now).top
def St.turnTop (s : St) (n : Int) (g : Fr → Fr) : St := s.turn n fun b => b.turnTop g
/-- A value on the stack of the top frame of the fiber n. -/
def pushV (s : St) (n v : Int) : St := s.turnTop n fun f => { f with stack := f.stack ++ [v] }
/-- The value on top of who runs; and without it. -/
def lastV (s : St) : Int := s.top.stack.getLast?.getD 0
def pullV (s : St) : St := s.turnTop s.now fun f => { f with stack := f.stack.dropLast }
def setAt (s : St) (a : Int) : St := s.turnTop s.now fun f => { f with at_ := a }
/-- Put out. -/
def putS (s : St) (v : Int) : St × Int := if s.out.length = 30 then (St.zero, 2) else ({ s with out := s.out ++ [v] }, 0)
/-- A frame that begins. -/
def begunS (p : List Fn) (f : Int) (vals : List Int) : Fr := ⟨f, 0, vals ++ List.replicate ((p.getD f.toNat Fn.zero).locals.toNat - vals.length) 0, []⟩
/-- Return. -/
def givenS (s : St) : St × Int :=
  let v := lastV s
  let s1 : St := (pullV s).turn s.now fun b => { b with frames := b.frames.dropLast }
  if (s1.fib s.now).frames = [] then
    if (s1.fib s.now).caller < 0 then putS { s1 with now := -1 } v
    else (pushV { (s1.turn s.now fun b => { b with caller := -1 }) with now := (s1.fib s.now).caller } (s1.fib s.now).caller v, 0)
  else (pushV s1 s.now v, 0)
/-- Resume. -/
def resumedS (s : St) : St × Int :=
  let v := lastV s
  let n := lastV (pullV s)
  let s1 := pullV (pullV s)
  if ixB n s1.fibers.length = true then
    if n ∈ (lineF s1.fibers (s1.fibers.length + 1) s1.now []).getD [] ∨ (s1.fib n).frames = [] then (St.zero, 6)
    else
      let s2 : St := { (s1.turn n fun b => { b with caller := s1.now }) with now := n }
      if s2.top.at_ = 0 then (s2.turnTop n fun f => { f with locals := f.locals.set 0 v }, 0) else (pushV s2 n v, 0)
  else (St.zero, 5)
/-- Call. -/
def calledS (p : List Fn) (s : St) (f : Int) : St × Int :=
  let k := (p.getD f.toNat Fn.zero).args.toNat
  let vals := s.top.stack.drop (s.top.stack.length - k)
  let s1 := s.turnTop s.now fun x => { x with stack := x.stack.take (x.stack.length - k) }
  if (s1.fib s.now).frames.length = 6 then (St.zero, 2)
  else (s1.turn s.now fun b => { b with frames := b.frames ++ [begunS p f vals] }, 0)
/-- Yield. -/
def yieldedS (s : St) : St × Int :=
  let v := lastV s
  let s1 := pullV s
  if (s1.fib s.now).caller < 0 then (St.zero, 7)
  else (pushV { (s1.turn s.now fun b => { b with caller := -1 }) with now := (s1.fib s.now).caller } (s1.fib s.now).caller v, 0)
def wrapS (z : Int) : Int := Int.bmod z (2 ^ 64)
def truthS (b : Bool) : Int := if b = true then 1 else 0
def reckonS (kd a b : Int) : Int :=
  if kd = 4 then wrapS (a + b) else if kd = 5 then wrapS (a - b) else if kd = 6 then wrapS (a * b) else if kd = 7 then truthS (decide (a < b)) else truthS (decide (a = b))
/-- Make. -/
def madeS (p : List Fn) (s : St) (f : Int) : St × Int :=
  if s.fibers.length = 5 then (St.zero, 2)
  else ({ pushV s s.now s.fibers.length with fibers := (pushV s s.now s.fibers.length).fibers ++ [⟨[begunS p f []], -1⟩] }, 0)
/-- An op, done. -/
def doneS (p : List Fn) (s0 : St) : St × Int :=
  let x := (codeOf p s0.top.fn.toNat).getD s0.top.at_.toNat (0, 0)
  let s := setAt s0 (s0.top.at_ + 1)
  if x.1 = 0 then (pushV s s.now x.2, 0)
  else if x.1 = 1 then (pullV s, 0)
  else if x.1 = 2 then (pushV s s.now (s.top.locals.getD x.2.toNat 0), 0)
  else if x.1 = 3 then ((pullV s).turnTop s.now fun f => { f with locals := f.locals.set x.2.toNat (lastV s) }, 0)
  else if x.1 = 9 then (setAt s x.2, 0)
  else if x.1 = 10 then (if lastV s = 0 then setAt (pullV s) x.2 else pullV s, 0)
  else if x.1 = 11 then calledS p s x.2
  else if x.1 = 12 then givenS s
  else if x.1 = 13 then madeS p s x.2
  else if x.1 = 14 then resumedS s
  else if x.1 = 15 then yieldedS s
  else if x.1 = 16 then putS (pullV s) (lastV s)
  else (pushV (pullV (pullV s)) s.now (reckonS x.1 (lastV (pullV s)) (lastV s)), 0)
def oneS (p : List Fn) (s : St) : St × Int := if s.now < 0 then (St.zero, 8) else doneS p s
/-- Steps: the state by then, how many, the error. -/
def runS (p : List Fn) : Nat → St → St × Nat × Int
  | 0, s => (s, 0, 0)
  | k + 1, s => if s.now < 0 then (s, 0, 0) else if (oneS p s).2 = 0 then ((runS p k (oneS p s).1).1, (runS p k (oneS p s).1).2.1 + 1, (runS p k (oneS p s).1).2.2) else (s, 0, (oneS p s).2)
def beginS (p : List Fn) : St := ⟨[⟨[⟨0, 0, List.replicate (p.getD 0 Fn.zero).locals.toNat 0, []⟩], -1⟩], 0, []⟩
end Go.Proofs.YtgdcecibfoganacDoor

namespace Go.Proofs.YtgdcecibfoganacDoor
open Go.RowKit

theorem top_frAt (s : St) (i : Nat) : (fibAt s i).top = frAt s i ((fibAt s i).frames.length - 1) := by
  unfold Fb.top frAt
  rw [List.getLast?_eq_getElem?]
  simp [List.getD]
theorem turnTop_setFr (s : St) (i : Nat) (g : Fr → Fr) : s.turnTop (i : Int) g = setFr s i ((fibAt s i).frames.length - 1) (g (frAt s i ((fibAt s i).frames.length - 1))) := by
  unfold St.turnTop St.turn Fb.turnTop setFr setFib St.fib
  rw [Int.toNat_natCast]
  show _ = { s with fibers := _ }
  rw [← top_frAt s i]
  rfl

/-- A frame's stack is turned: the variable that holds the state. -/
theorem OwnVar.turnStack {base bs : Nat} {w w2 : World} {V : Key → Value} {s : St} (h : OwnVar base w bs V s) {i j g cap : Nat} (hi : i < s.fibers.length) (hj : j < (fibAt s i).frames.length)
    (hV : V (.frames i) = .slice (some ⟨g, 0, none⟩) (fibAt s i).frames.length cap) (vs : Value) (l : List Int) (hgrow : w.grownBy w2 (V (.stack i j)).ownBlock) (hown : w2.ownsRow base 3 1 vs l.length (ints l))
    (hat : vs.ownBlock = (V (.stack i j)).ownBlock ∨ vs.ownBlock = some w.heap.size) :
    OwnVar base (w2.setCell ⟨g, j * 4 + 3, none⟩ vs) bs (upd V (.stack i j) vs) (setFr s i j { frAt s i j with stack := l }) ∧ Below base w (w2.setCell ⟨g, j * 4 + 3, none⟩ vs) := by
  have hlS : live s (.stack i j) := ⟨hi, hj⟩
  have hlF : live s (.frames i) := hi
  have hgb : (V (.frames i)).ownBlock = some g := by rw [hV]; rfl
  have hbsw := lt_of_block h.var
  have hbsg : bs ≠ g := fun e => h.off _ hlF (by rw [hgb, e])
  have hgblk := (h.own.piece _ hlF).block g hgb
  have hown' := h.own.turnFrame (w1 := w2) hi hj hV vs { frAt s i j with stack := l } 3 vs (by omega) (fun b hb hne => hgrow.block b hb (fun e => hne e.symm)) hown hat rfl rfl rfl rfl rfl
  refine ⟨h.turn hown' ?_ (upd_ne V vs (by simp)) (upd_ne V vs (by simp)) rfl ?_, ?_⟩
  · rw [Below.heap_setCell _ _ _ _ hbsg]
    exact hgrow.block bs hbsw (fun e => h.off _ hlS e.symm)
  · intro k hk e
    by_cases hkS : k = .stack i j
    · subst hkS
      rw [upd_same] at e
      rcases hat with e' | e'
      · exact h.off _ hlS (by rw [← e', e])
      · rw [e] at e'; cases e'; omega
    · rw [upd_ne V vs hkS] at e
      exact h.off k ((setFr_live _ hi k).1 hk) e
  · refine Below.setCell (Below.grown (Below.refl _ w) hgrow (by omega) (fun r hr => ?_)) hgblk.1 _
    exact ((h.own.piece _ hlS).block r hr).1

/-- What a part of the machine leaves: the state of one's own, turned. -/
def Turned (base bs : Nat) (s' : St) (r : Value) (w : World) (e : Ending) (w' : World) : Prop := e = .returned r ∧ ∃ V', OwnVar base w' bs V' s' ∧ Below base w w'

set_option maxHeartbeats 1000000 in
theorem top_any (bs N capF gF i q cap g : Nat) (w : World) (hi : i < N) (hq : 0 < q) (hqs : q ≤ 1000)
    (c0 : w.cell? ⟨bs, 0, none⟩ = some (.slice (some ⟨gF, 0, none⟩) N capF)) (c1 : w.cell? ⟨gF, i * 2, none⟩ = some (.slice (some ⟨g, 0, none⟩) q cap)) :
    Calls Tryd.prog 73 #[.pointer (some ⟨bs, 0, none⟩), .int .i64 i] w fun e w' => e = .returned (.pointer (some ⟨g, (q - 1) * 4, none⟩)) ∧ ∃ m, w' = w.drewN m := by
  obtain ⟨t, rfl⟩ : ∃ t, q = t + 1 := ⟨q - 1, by omega⟩
  have hi1 : (i : Int) < (N : Int) := by omega
  have hi0 : (0 : Int) ≤ (i : Int) := by omega
  have hw : IntKind.i64.wrap (((t + 1 : Nat) : Int) - 1) = (t : Int) := by rw [IntKind.wrap_i64]; omega
  have hw2 : IntKind.i64.wrap ((t : Int) + 1 - 1) = (t : Int) := by rw [IntKind.wrap_i64]; omega
  have ht : (t : Int) + 1 - 1 = (t : Int) := by omega
  have ht1 : (t : Int) < (t : Int) + 1 := by omega
  have ht0 : (0 : Int) ≤ (t : Int) := by omega
  go_enter Tryd.func73, Tryd.ntmps73
  go_wp2
  go_quiet (fail)
  go_wp2
  go_ret
  exact ⟨rfl, _, rfl⟩

/-- top, of a state of one's own. -/
theorem top_own {base bs : Nat} {w : World} {V : Key → Value} {s : St} (h : OwnVar base w bs V s) {i : Nat} (hi : i < s.fibers.length) (hq : 0 < (fibAt s i).frames.length) (hqs : (fibAt s i).frames.length ≤ 1000) :
    ∃ g cap, V (.frames i) = .slice (some ⟨g, 0, none⟩) (fibAt s i).frames.length cap ∧ Calls Tryd.prog 73 #[.pointer (some ⟨bs, 0, none⟩), .int .i64 i] w fun e w' => e = .returned (.pointer (some ⟨g, ((fibAt s i).frames.length - 1) * 4, none⟩)) ∧ ∃ m, w' = w.drewN m := by
  obtain ⟨gF, capF, eF, _, k0, _⟩ := h.own.fib hi
  obtain ⟨g, cap, eg, _, _⟩ := h.own.fr hi (j := 0) hq
  obtain ⟨c0, _⟩ := h.cells
  rw [eF] at c0
  rw [eg] at k0
  exact ⟨g, cap, eg, top_any bs _ capF gF i _ cap g w hi hq hqs c0 k0⟩

theorem below_of_grown {base : Nat} {w w' : World} {row : Option Nat} (hg : w.grownBy w' row) (hb : base ≤ w.heap.size) (hr : ∀ r, row = some r → base ≤ r) : Below base w w' := Below.grown (Below.refl _ w) hg hb hr

set_option maxHeartbeats 2000000 in
set_option maxRecDepth 100000 in
theorem push_any (base bs : Nat) (V : Key → Value) (s : St) (i : Nat) (z : Int) (w : World) (h : OwnVar base w bs V s) (hi : i < s.fibers.length) (hq : 0 < (fibAt s i).frames.length) (hqs : (fibAt s i).frames.length ≤ 1000) (hst : (frAt s i ((fibAt s i).frames.length - 1)).stack.length ≤ 1000) :
    Calls Tryd.prog 74 #[.pointer (some ⟨bs, 0, none⟩), .int .i64 i, .int .i64 z] w fun e w' => Turned base bs (pushV s i z) (.tuple #[]) w e w' := by
  obtain ⟨i0, hi0, hz0, hz1, hz2⟩ := info_parts infoInt
  obtain ⟨g, cap, eg, htop⟩ := top_own h hi hq hqs
  unfold pushV
  rw [turnTop_setFr]
  generalize hj : (fibAt s i).frames.length - 1 = j at *
  have hjl : j < (fibAt s i).frames.length := by omega
  have HT := hide htop
  have HO := hide h
  have HEG := hide eg
  clear htop h
  go_enter Tryd.func74, Tryd.ntmps74
  go_wp2_with fail
  refine (unhide HT).mono ?_
  rintro e w1 ⟨rfl, m, rfl⟩
  generalize hw1 : w.drewN m = w1
  have ho1 : OwnVar base w1 bs V s := (unhide HO).same (by rw [← hw1]; rfl)
  have hb1 : Below base w w1 := by rw [← hw1]; exact below_drewN (Below.refl _ w) m
  obtain ⟨g', cap', eg', _, f0, f1, f2, f3, ffz, hbg⟩ := ho1.own.fr hi hjl
  rw [unhide HEG] at eg'
  obtain ⟨⟨rfl⟩, -, rfl⟩ := (by simpa using eg' : (g = g') ∧ True ∧ cap = cap')
  have hs := ho1.own.stk hi hjl
  have hlg := cell_lt f0
  simp only at hlg
  have hbw : base ≤ w1.heap.size := by omega
  have hgs : (V (.stack i j)).ownBlock ≠ some g := fun e => by
    have := ho1.own.apart (.stack i j) (.frames i) g ⟨hi, hjl⟩ hi e (by rw [unhide HEG]; rfl)
    cases this
  have HO1 := hide ho1
  have HB1 := hide hb1
  have HS := hide hs
  have hfz := ffz (j * 4 + 3)
  generalize hvs : V (.stack i j) = vs0 at *
  have HVS := hide hvs
  generalize hl : (frAt s i j).stack = l at *
  have HL := hide hl
  clear hw1 hb1 ho1 hvs hl hs f0 f1 f2 ffz eg'
  go_wp2_with (at_builtin; refine wpList_append_own_at _ rfl _ _ 24 rfl base 3 i0 (.int .i64 0) 1 8 Tryd.underlying24 hi0 hz0 hz1 hz2 rfl (by decide) _ _ _ rfl ((unhide HS).alloc _) ⟨w1.heap.size, 0, none⟩ 1 1 [.int .i64 z] rfl rfl (new_one _ _ _) (int_one _) (by unfold maxLen; omega) (by omega) (by simp; omega) ?_; intro v' w2 hown' hgrow _ hat; obtain ⟨o2, c2, rfl, -⟩ := row_slice hown'; have g3 : w2.cell? ⟨g, j * 4 + 3, none⟩ = some vs0 := hgrow.cell (((Kept.refl w1).alloc _).cell f3) (fun e => hgs e.symm); have gz : w2.frozen? ⟨g, j * 4 + 3, none⟩ = false := (World.frozen?_of_block (hgrow.block g (by simp; omega) (fun e => hgs e.symm))).trans ((World.frozen?_of_block (Below.heap_alloc w1 _ g hlg)).trans hfz); have HOW := hide hown'; have HGR := hide hgrow; have HAT := hide hat; clear hown' hgrow hat)
  go_end0
  have hfin := ((unhide HO1).alloc (.cells #[.int .i64 z] 3)).turnStack (w2 := w2) hi hjl (unhide HEG) (.slice o2 (l.length + 1) c2) (l ++ [z]) (by rw [unhide HVS]; exact unhide HGR) (by rw [ints_append, List.length_append]; exact unhide HOW) (by rw [unhide HVS]; exact unhide HAT)
  unfold Turned
  refine ⟨rfl, upd V (.stack i j) (.slice o2 (l.length + 1) c2), ?_, ?_⟩
  · rw [unhide HL]
    exact hfin.1
  · exact Below.trans (unhide HB1) (Below.trans (Below.alloc (Below.refl _ w1) hbw _) hfin.2)
end Go.Proofs.YtgdcecibfoganacDoor
