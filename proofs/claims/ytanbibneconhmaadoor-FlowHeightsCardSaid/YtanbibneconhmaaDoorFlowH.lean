/-
  The contract of the statements' own flowBegun: it answers true.
-/
import Derived.Test.YtanbibneconhmaaDoorSame
namespace Go.Proofs.YtanbibneconhmaaDoor
open Go.RowKit

theorem heights_is (p : List Fn) (v : Value) (f : Int) (l : List Int) (r : Int) (w : World) (hp : ProgAt w v p) (hk : KindsAt w) (h : hgtS p f = (l, r)) :
    Calls Tryd.prog 15 #[v, .int .i64 f] w fun e w' => ∃ u, e = .returned (.tuple #[u, .int .i64 r]) ∧ IntsAt w' u l ∧ Kept w w' := by
  refine (heights_any p v f w hp hk).mono ?_
  rintro e w' ⟨u, h1, h2, h3⟩
  rw [h] at h1 h2
  exact ⟨u, h1, h2, h3⟩

/-- A program of one function, as the statements write it. -/
theorem one_prog {w : World} {b0 b n : Nat} {c : List (Int × Int)} {A : Array Value} (h0 : w.heap[b0]? = some (.cells A 24)) (hA : A = (flatOps c).toArray) (hl : c.length ≤ 8796093022208) (hn : n = c.length)
    (h : w.heap[b]? = some (.cells #[.int .i64 0, .int .i64 0, .slice (some ⟨b0, 0, none⟩) n n] 34)) : ProgAt w (.slice (some ⟨b, 0, none⟩) 1 1) [⟨0, 0, c⟩] := by
  refine progAt_block h [(⟨0, 0, c⟩, .slice (some ⟨b0, 0, none⟩) n n)] rfl (by simp) ?_ 1 1 rfl _ rfl
  intro x hx
  simp only [List.mem_cons, List.not_mem_nil, or_false] at hx
  subst hx
  exact codeAt_block h0 c hA hl n n hn

theorem ints_block {w : World} {b n : Nat} {l : List Int} {A : Array Value} (h : w.heap[b]? = some (.cells A 3)) (hA : A = (l.map fun z => Value.int .i64 z).toArray) (hl : l.length ≤ 8796093022208) (hn : n = l.length) : IntsAt w (.slice (some ⟨b, 0, none⟩) n n) l := by
  subst hA hn
  refine ⟨_, _, rfl, hl, fun i z hz => ⟨b, 0, rfl, ?_⟩⟩
  rw [cell_lays h, Nat.zero_add]
  simp [hz]

set_option maxHeartbeats 4000000 in
theorem flowBegun_any (w : World) (hk : KindsAt w) :
    Calls Tryd.prog 17 #[] w fun e w' => e = .returned (.bool true) ∧ Kept w w' := by
  have HK := hide hk
  clear hk
  go_enter Tryd.func17, Tryd.ntmps17
  go_wp2_with fail
  refine (count_any _).mono ?_
  rintro e w1 ⟨v1, rfl, hc1, hk1⟩
  have H1 : Hid (Kept w w1) := hk1
  have C1 := hide hc1
  clear hc1 hk1
  go_wp2_with fail
  refine (heights_is cntL _ _ [0, 1, 1, 0, 1, 2, 1, 1, 0, 1, -1, -1] 0 _ (unhide C1).prog ((unhide HK).kept H1.out) (by decide +kernel)).mono ?_
  rintro e w2 ⟨u2, rfl, hi2, hk2⟩
  have H2 : Hid (Kept w w2) := H1.out.trans hk2
  have I2 := hide hi2
  clear hi2 hk2 H1 C1
  go_wp2_with fail
  refine (count_any _).mono ?_
  rintro e w3 ⟨v3, rfl, hc1, hk1⟩
  have H3 : Hid (Kept w w3) := H2.out.trans hk1
  have I3 := hide ((unhide I2).kept hk1)
  have C1 := hide hc1
  clear hc1 hk1 H2 I2
  go_wp2_with fail
  refine (heights_is cntL _ _ [] 5 _ (unhide C1).prog ((unhide HK).kept H3.out) (by decide +kernel)).mono ?_
  rintro e w4 ⟨u4, rfl, _, hk2⟩
  have H4 : Hid (Kept w w4) := H3.out.trans hk2
  have I4 := hide ((unhide I3).kept hk2)
  clear hk2 H3 I3 C1
  go_wp2_with (go_at_call 25; refine (o_any _ _ _).mono ?_; rintro e w' ⟨rfl, rfl⟩)
  refine (heights_is [⟨0, 0, [(1, 0), (12, 0)]⟩] _ _ [] 1 _ ?_ ((unhide HK).kept ((((H4.out.alloc _).alloc _).alloc _).alloc _)) (by decide +kernel)).mono ?_
  · exact one_prog (b0 := w4.heap.size + 1 + 1) (b := w4.heap.size + 1 + 1 + 1) (lays_alloc (lays_new (by simp)) _) rfl (by decide) rfl (lays_new (by simp))
  rintro e w5 ⟨u5, rfl, _, hk2⟩
  have hk4 := ((((Kept.refl w4).alloc _).alloc _).alloc _).alloc _ |>.trans hk2
  have H5 : Hid (Kept w w5) := H4.out.trans hk4
  have I5 := hide ((unhide I4).kept hk4)
  clear hk2 hk4 H4 I4
  go_wp2_with (go_at_call 25; refine (o_any _ _ _).mono ?_; rintro e w' ⟨rfl, rfl⟩)
  refine (heights_is [⟨0, 0, [(0, 0)]⟩] _ _ [] 1 _ ?_ ((unhide HK).kept (((H5.out.alloc _).alloc _).alloc _)) (by decide +kernel)).mono ?_
  · exact one_prog (b0 := w5.heap.size + 1) (b := w5.heap.size + 1 + 1) (lays_alloc (lays_new (by simp)) _) rfl (by decide) rfl (lays_new (by simp))
  rintro e w6 ⟨u6, rfl, _, hk2⟩
  have hk4 := (((Kept.refl w5).alloc _).alloc _).alloc _ |>.trans hk2
  have H6 : Hid (Kept w w6) := H5.out.trans hk4
  have I6 := hide ((unhide I5).kept hk4)
  clear hk2 hk4 H5 I5
  go_wp2_with (go_at_call 25; refine (o_any _ _ _).mono ?_; rintro e w' ⟨rfl, rfl⟩)
  refine (heights_is [⟨0, 0, [(0, 0), (10, 3), (9, 0), (0, 1), (12, 0)]⟩] _ _ [0, 1, 0, 0, 1] 0 _ ?_ ((unhide HK).kept (((((((H6.out.alloc _).alloc _).alloc _).alloc _).alloc _).alloc _).alloc _)) (by decide +kernel)).mono ?_
  · exact one_prog (b0 := w6.heap.size + 1 + 1 + 1 + 1 + 1) (b := w6.heap.size + 1 + 1 + 1 + 1 + 1 + 1) (lays_alloc (lays_new (by simp)) _) rfl (by decide) rfl (lays_new (by simp))
  rintro e w7 ⟨u7, rfl, hi7, hk2⟩
  have hk4 := (((((((Kept.refl w6).alloc _).alloc _).alloc _).alloc _).alloc _).alloc _).alloc _ |>.trans hk2
  have H7 : Hid (Kept w w7) := H6.out.trans hk4
  have I7 := hide ((unhide I6).kept hk4)
  have J7 := hide hi7
  clear hk2 hk4 H6 I6 hi7
  go_wp2_with fail
  refine (sameInts_any _ [0, 1, 1, 0, 1, 2, 1, 1, 0, 1, -1, -1] _ _ _ ((unhide I7).kept ((Kept.refl _).alloc _)) ?_).mono ?_
  · exact ints_block (lays_new (by simp)) rfl (by decide) rfl
  rintro e w8 ⟨rfl, hk2⟩
  have hk4 := (Kept.refl w7).alloc _ |>.trans hk2
  have H8 : Hid (Kept w w8) := H7.out.trans hk4
  have J8 := hide ((unhide J7).kept hk4)
  clear hk2 hk4 H7 J7 I7
  go_wp2_with fail
  refine (sameInts_any _ [0, 1, 0, 0, 1] _ _ _ ((unhide J8).kept ((Kept.refl _).alloc _)) ?_).mono ?_
  · exact ints_block (lays_new (by simp)) rfl (by decide) rfl
  rintro e w9 ⟨rfl, hk2⟩
  have H9 : Hid (Kept w w9) := (H8.out.alloc _).trans hk2
  clear hk2 H8 J8
  go_wp2
  go_ret
  exact ⟨rfl, H9⟩
end Go.Proofs.YtanbibneconhmaaDoor
