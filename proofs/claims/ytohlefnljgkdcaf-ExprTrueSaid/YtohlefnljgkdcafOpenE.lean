/-
  From the readings of nodes and of values to how they lie in memory.
-/
import Derived.Test.YtohlefnljgkdcafOpenG
import Derived.Test.YtohlefnljgkdcafExprM
namespace Go.Proofs.Ytohlefnljgkdcaf
open Go.RowKit Go.ChangeShapes Go.WideShapes Go.ChangeAt

theorem cellsNode : Try.prog.cellsOf 29 = 2 := by kernel_rfl
theorem bytesNode : Try.prog.bytesOf 29 = 16 := by kernel_rfl
theorem bytesIntE : Try.prog.bytesOf 3 = 8 := by kernel_rfl
theorem typeNode : ∃ f0 f1 : Field, Try.prog.underlying 29 = some (.struct #[f0, f1]) ∧ f0.type = 3 ∧ f0.offset = 0 ∧ f1.type = 3 ∧ f1.offset = 1 := ⟨_, _, Try.underlying29, rfl, rfl, rfl, rfl⟩

section
variable {H : Type} {enc : TypeId × Value → H} {w : World} {base : Nat} {spare : Nat → Bool} {held : Bool}

/-- A node reads as two integers. -/
theorem trod_node {fuel : Nat} {cs : List Value} {x : DataW H × List MemPlace} (h : DataW.trod enc Try.prog w base spare held fuel 29 cs = some x) :
    ∃ k a : Int, cs = [.int .i64 k, .int .i64 a] ∧ (Lit.int .i64 k).wf = true := by
  obtain ⟨f0, f1, hu, t0, o0, t1, o1⟩ := typeNode
  obtain ⟨y0, y1, n, hx, hl, h0, h1⟩ := trod_struct2 hu h
  rw [t0, o0, cellsInt] at h0
  rw [t1, o1, cellsInt] at h1
  obtain ⟨k, e0, r0, w0⟩ := DataW.trod_int Try.underlying3 h0
  obtain ⟨a, e1, r1, w1⟩ := DataW.trod_int Try.underlying3 h1
  rw [cellsNode] at hl
  match cs, hl with
  | [c0, c1], _ =>
    simp at e0 e1
    subst e0 e1
    exact ⟨k, a, rfl, w0⟩

/-- A slice of nodes. -/
theorem open_nodes {fuel : Nat} {v : Value} {x : DataW H × List MemPlace} (h : DataW.trod enc Try.prog w base spare held fuel 22 [v] = some x) (hw : ∀ n, n ∈ x.1.weights Try.prog 22 → n ≤ reachBytes) :
    ∃ c, NodesAt w v c ∧ ∀ x ∈ c, (Lit.int .i64 x.1).wf = true := by
  rcases Deep.open_slice Try.underlying22 h with ⟨e, _⟩ | ⟨a, len, cap, m, n, D, Pl, e, _, hlc, _, hm, hx, hi⟩
  · simp at e
    subst e
    exact ⟨[], NodesAt.nil _, by simp⟩
  · simp at e
    subst e
    have hlm : len ≤ m := by rw [hm]; split <;> omega
    have hlen : len * 16 ≤ 140737488351232 := by
      have := hw ((((List.range len).map D).length + ((List.range (m - len)).map fun j => D (len + j)).length) * Try.prog.bytesOf 29) (by rw [hx]; simp [DataW.weights, Try.underlying22])
      rw [bytesNode, reach_eq] at this
      simp at this
      omega
    have hall : ∀ i, i < len → ∃ y : Int × Int, (w.cell? (a.add (i * 2)) = some (.int .i64 y.1) ∧ w.cell? (a.add (i * 2 + 1)) = some (.int .i64 y.2)) ∧ (Lit.int .i64 y.1).wf = true := by
      intro i hil
      obtain ⟨cs', hc, ht⟩ := hi i (by omega)
      rw [cellsNode] at hc
      obtain ⟨_, _, hcell⟩ := World.cells?_some hc
      obtain ⟨k, av, rfl, hwk⟩ := trod_node ht
      refine ⟨(k, av), ⟨?_, ?_⟩, hwk⟩
      · have := hcell 0 (by omega); rw [Deep.add_add] at this; simpa using this
      · have := hcell 1 (by omega); rw [Deep.add_add] at this; simpa using this
    obtain ⟨g, hg⟩ := Deep.choose_lt hall
    refine ⟨(List.range len).map g, ⟨some a, cap, by simp, ⟨by simp; omega, by simpa using hlc⟩, fun i y hy => ?_⟩, fun y hy => ?_⟩
    · rw [List.getElem?_map, Option.map_eq_some_iff] at hy
      obtain ⟨j, hj, rfl⟩ := hy
      have hjl : i < len := by simpa using (List.getElem?_eq_some_iff.1 hj).1
      obtain rfl : i = j := by simpa [hjl] using hj
      have hs : a.spot = none := by
        have := (hg 0 (by omega)).1.1
        simp only [Nat.zero_mul] at this
        exact spot_none (by simpa [Addr.add] using this)
      refine ⟨a.block, a.off, by cases a; simp_all, ?_, ?_⟩
      · have := (hg i hjl).1.1; rwa [add_of_spot hs] at this
      · have := (hg i hjl).1.2; rwa [add_of_spot hs, ← Nat.add_assoc] at this
    · obtain ⟨i, hi', rfl⟩ := List.mem_map.1 hy
      exact (hg i (by simpa using hi')).2

/-- A slice of values. -/
theorem open_vals {fuel : Nat} {v : Value} {x : DataW H × List MemPlace} (h : DataW.trod enc Try.prog w base spare held fuel 23 [v] = some x) (hw : ∀ n, n ∈ x.1.weights Try.prog 23 → n ≤ reachBytes) : ∃ l, IntsW w v l := by
  rcases Deep.open_slice Try.underlying23 h with ⟨e, _⟩ | ⟨a, len, cap, m, n, D, Pl, e, _, hlc, _, hm, hx, hi⟩
  · simp at e
    subst e
    exact ⟨[], IntsW.nil _⟩
  · simp at e
    subst e
    have hlm : len ≤ m := by rw [hm]; split <;> omega
    have hlen : len * 8 ≤ 140737488351232 := by
      have := hw ((((List.range len).map D).length + ((List.range (m - len)).map fun j => D (len + j)).length) * Try.prog.bytesOf 3) (by rw [hx]; simp [DataW.weights, Try.underlying23])
      rw [bytesIntE, reach_eq] at this
      simp at this
      omega
    have hall : ∀ i, i < len → ∃ y : Int, w.cell? (a.add (i * 1)) = some (.int .i64 y) := by
      intro i hil
      obtain ⟨cs', hc, ht⟩ := hi i (by omega)
      rw [cellsInt] at hc
      obtain ⟨_, hcl, hcell⟩ := World.cells?_some hc
      obtain ⟨k, e0, _, _⟩ := DataW.trod_int Try.underlying3 ht
      subst e0
      refine ⟨k, ?_⟩
      have := hcell 0 (by omega); rw [Deep.add_add] at this; simpa using this
    obtain ⟨g, hg⟩ := Deep.choose_lt hall
    refine ⟨(List.range len).map g, some a, cap, by simp, by simp; omega, fun i y hy => ?_⟩
    rw [List.getElem?_map, Option.map_eq_some_iff] at hy
    obtain ⟨j, hj, rfl⟩ := hy
    have hjl : i < len := by simpa using (List.getElem?_eq_some_iff.1 hj).1
    obtain rfl : i = j := by simpa [hjl] using hj
    have hs : a.spot = none := by
      have := hg 0 (by omega)
      exact spot_none (by simpa [Addr.add] using this)
    refine ⟨a.block, a.off, by cases a; simp_all, ?_⟩
    have := hg i hjl; rwa [add_of_spot hs, Nat.mul_one] at this
end
end Go.Proofs.Ytohlefnljgkdcaf
