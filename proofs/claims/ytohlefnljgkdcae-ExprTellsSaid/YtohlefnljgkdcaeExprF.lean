/-
  The contract of the statements' own exprBegun: it answers true.
-/
import Derived.Test.YtohlefnljgkdcaeExprE
namespace Go.Proofs.Ytohlefnljgkdcae
open Go.RowKit Go.Maps

def nodesL : List (Int × Int) := [(7, 0), (5, 0), (1, 0), (0, 5), (4, 0), (1, 0), (1, 0), (0, 7)]
def flatNodes (c : List (Int × Int)) : List Value := c.flatMap fun x => [.int .i64 x.1, .int .i64 x.2]
theorem flatNodes_at : ∀ (c : List (Int × Int)) (i : Nat) (x : Int × Int), c[i]? = some x → (flatNodes c)[i * 2]? = some (.int .i64 x.1) ∧ (flatNodes c)[i * 2 + 1]? = some (.int .i64 x.2)
  | [], i, x, h => by simp at h
  | y :: c, 0, x, h => by simp at h; subst h; simp [flatNodes]
  | y :: c, i + 1, x, h => by
    have := flatNodes_at c i x (by simpa using h)
    have e : flatNodes (y :: c) = .int .i64 y.1 :: .int .i64 y.2 :: flatNodes c := by simp [flatNodes]
    rw [e, show (i + 1) * 2 = i * 2 + 1 + 1 by omega]
    simpa using this
/-- Nodes that lie in a block of their own, or the first of them. -/
theorem nodesAt_block {w : World} {b : Nat} {A : Array Value} {t : TypeId} {fr : Nat × Nat} (h : w.heap[b]? = some (.cells A t fr)) (c d : List (Int × Int)) (hA : A = (flatNodes (c ++ d)).toArray) (hl : c.length ≤ 8796093022208) (n cap : Nat) (hn : n = c.length) (hc : n ≤ cap) :
    NodesAt w (.slice (some ⟨b, 0, none⟩) n cap) c := by
  subst hn hA
  refine ⟨_, _, rfl, ⟨hl, hc⟩, fun i x hx => ⟨b, 0, rfl, ?_, ?_⟩⟩
  · have hx' : (c ++ d)[i]? = some x := by rw [List.getElem?_append_left (List.getElem?_eq_some_iff.1 hx).1]; exact hx
    rw [cell_lays h]; simpa using (flatNodes_at (c ++ d) i x hx').1
  · have hx' : (c ++ d)[i]? = some x := by rw [List.getElem?_append_left (List.getElem?_eq_some_iff.1 hx).1]; exact hx
    rw [cell_lays h]; simpa using (flatNodes_at (c ++ d) i x hx').2
theorem intsW_block {w : World} {b : Nat} {A : Array Value} {t : TypeId} {fr : Nat × Nat} (h : w.heap[b]? = some (.cells A t fr)) (l : List Int) (hA : A = (l.map fun z => Value.int .i64 z).toArray) (hl : l.length ≤ 17592186043904) (n cap : Nat) (hn : n = l.length) :
    IntsW w (.slice (some ⟨b, 0, none⟩) n cap) l := by
  subst hn hA
  refine ⟨_, _, rfl, hl, fun i z hz => ⟨b, 0, rfl, ?_⟩⟩
  rw [cell_lays h]
  simp [hz]

theorem nodes_any (w : World) : Calls Try.prog 11 #[] w fun e w' => ∃ b, e = .returned (.slice (some ⟨b, 0, none⟩) 8 8) ∧ w'.heap[b]? = some (.cells (flatNodes nodesL).toArray 37) ∧ Kept w w' := by
  go_enter Try.func11, Try.ntmps11
  go_wp2
  go_ret
  exact ⟨_, rfl, lays_new rfl, (Kept.refl _).alloc _⟩

theorem nodesL_wf : ∀ x ∈ nodesL, (Lit.int .i64 x.1).wf = true := by decide

theorem exValue_is (e : List (Int × Int)) (vals : List Int) (v vv : Value) (a b : Int) (w : World) (he : NodesAt w v e) (hw : ∀ x ∈ e, (Lit.int .i64 x.1).wf = true) (hv : IntsW w vv vals) (ha : exValS e vals = a) (hb : exErrS e vals.length = b) :
    Calls Try.prog 4 #[v, vv] w fun x w' => x = .returned (.tuple #[.int .i64 a, .int .i64 b]) ∧ Kept w w' := by
  subst ha hb
  exact exValue_any e vals v vv w he hw hv
theorem check_is (e : List (Int × Int)) (v : Value) (n a : Int) (w : World) (he : NodesAt w v e) (hw : ∀ x ∈ e, (Lit.int .i64 x.1).wf = true) (ha : exErrS e n = a) :
    Calls Try.prog 7 #[v, .int .i64 n] w fun x w' => x = .returned (.int .i64 a) ∧ Kept w w' := by
  subst ha
  exact check_any e v n w he hw

theorem NodesAt.of_nodes {w : World} {b : Nat} (h : w.heap[b]? = some (.cells (flatNodes nodesL).toArray 37)) : NodesAt w (.slice (some ⟨b, 0, none⟩) 8 8) nodesL := nodesAt_block h nodesL [] (by simp) (by decide) 8 8 rfl (by omega)
theorem NodesAt.of_seven {w : World} {b : Nat} (h : w.heap[b]? = some (.cells (flatNodes nodesL).toArray 37)) : NodesAt w (.slice (some ⟨b, 0, none⟩) 7 8) (nodesL.take 7) := nodesAt_block h (nodesL.take 7) [(0, 7)] rfl (by decide) 7 8 rfl (by omega)

set_option maxRecDepth 100000 in
set_option maxHeartbeats 4000000 in
theorem exprBegun_any (w : World) : Calls Try.prog 6 #[] w fun e w' => e = .returned (.bool true) ∧ Kept w w' := by
  go_enter Try.func6, Try.ntmps6
  go_wp2_with fail
  refine (nodes_any _).mono ?_
  rintro _ w1 ⟨b1, rfl, hb1, hk1⟩
  have HC := hide (exValue_is nodesL [3] _ _ 9 0 (w1.alloc (.cells #[.int .i64 3] 3)) (NodesAt.of_nodes (lays_alloc hb1 _)) nodesL_wf (intsW_block (lays_new rfl) [3] rfl (by simp) 1 1 rfl) (by decide +kernel) (by decide +kernel))
  have HK := hide (hk1.alloc (.cells #[.int .i64 3] 3))
  clear hb1 hk1
  go_wp2_with fail
  refine (unhide HC).mono ?_
  rintro _ w2 ⟨rfl, hk2⟩
  have HK2 := hide ((unhide HK).trans hk2)
  clear HC HK hk2
  go_wp2_with fail
  refine (nodes_any _).mono ?_
  rintro _ w3 ⟨b3, rfl, hb3, hk3⟩
  have HC := hide (exValue_is nodesL [6] _ _ 7 0 (w3.alloc (.cells #[.int .i64 6] 3)) (NodesAt.of_nodes (lays_alloc hb3 _)) nodesL_wf (intsW_block (lays_new rfl) [6] rfl (by simp) 1 1 rfl) (by decide +kernel) (by decide +kernel))
  have HK := hide (((unhide HK2).trans hk3).alloc (.cells #[.int .i64 6] 3))
  clear hb3 hk3 HK2
  go_wp2_with fail
  refine (unhide HC).mono ?_
  rintro _ w4 ⟨rfl, hk4⟩
  have HK4 := hide ((unhide HK).trans hk4)
  clear HC HK hk4
  go_wp2_with fail
  refine (nodes_any _).mono ?_
  rintro _ w5 ⟨b5, rfl, hb5, hk5⟩
  have HC := hide (exValue_is nodesL [] _ _ 0 3 w5 (NodesAt.of_nodes hb5) nodesL_wf (IntsW.nil _) (by decide +kernel) (by decide +kernel))
  have HK := hide ((unhide HK4).trans hk5)
  clear hb5 hk5 HK4
  go_wp2_with fail
  refine (unhide HC).mono ?_
  rintro _ w6 ⟨rfl, hk6⟩
  have HK6 := hide ((unhide HK).trans hk6)
  clear HC HK hk6
  go_wp2_with fail
  refine (nodes_any _).mono ?_
  rintro _ w7 ⟨b7, rfl, hb7, hk7⟩
  have HC := hide (check_is nodesL _ 1 0 w7 (NodesAt.of_nodes hb7) nodesL_wf (by decide +kernel))
  have HK := hide ((unhide HK6).trans hk7)
  clear hb7 hk7 HK6
  go_wp2_with fail
  refine (unhide HC).mono ?_
  rintro _ w8 ⟨rfl, hk8⟩
  have HK8 := hide ((unhide HK).trans hk8)
  clear HC HK hk8
  go_wp2_with fail
  refine (nodes_any _).mono ?_
  rintro _ w9 ⟨b9, rfl, hb9, hk9⟩
  have HC := hide (check_is nodesL _ 5 3 w9 (NodesAt.of_nodes hb9) nodesL_wf (by decide +kernel))
  have HK := hide ((unhide HK8).trans hk9)
  clear hb9 hk9 HK8
  go_wp2_with fail
  refine (unhide HC).mono ?_
  rintro _ x1 ⟨rfl, hj1⟩
  have HJ1 := hide ((unhide HK).trans hj1)
  clear HC HK hj1
  go_wp2_with fail
  refine (nodes_any _).mono ?_
  rintro _ x2 ⟨c2, rfl, hc2, hj2⟩
  have HC := hide (check_is (nodesL.take 7) _ 1 1 x2 (NodesAt.of_seven hc2) (fun x hx => nodesL_wf x (List.mem_of_mem_take hx)) (by decide +kernel))
  have HK := hide ((unhide HJ1).trans hj2)
  clear hc2 hj2 HJ1
  go_wp2_with fail
  refine (unhide HC).mono ?_
  rintro _ x3 ⟨rfl, hj3⟩
  have HJ3 := hide ((unhide HK).trans hj3)
  have HC2 := hide (check_is [] _ 0 1 x3 (NodesAt.nil _) (by simp) (by decide +kernel))
  clear HC HK hj3
  go_wp2_with fail
  refine (unhide HC2).mono ?_
  rintro _ x4 ⟨rfl, hj4⟩
  have HJ4 := hide (((unhide HJ3).trans hj4).alloc (.cells #[.int .i64 8, .int .i64 0] 37))
  have HC := hide (check_is [(8, 0)] (.slice (some ⟨x4.heap.size, 0, none⟩) 1 1) 0 4 (x4.alloc (.cells #[.int .i64 8, .int .i64 0] 37)) (nodesAt_block (lays_new rfl) [(8, 0)] [] rfl (by decide) 1 1 rfl (by omega)) (by decide) (by decide +kernel))
  clear HC2 HJ3 hj4
  go_wp2_with fail
  refine (unhide HC).mono ?_
  rintro _ x5 ⟨rfl, hj5⟩
  have HJ5 := hide ((unhide HJ4).trans hj5)
  clear HC HJ4 hj5
  go_wp2
  go_ret
  exact ⟨rfl, unhide HJ5⟩
end Go.Proofs.Ytohlefnljgkdcae
