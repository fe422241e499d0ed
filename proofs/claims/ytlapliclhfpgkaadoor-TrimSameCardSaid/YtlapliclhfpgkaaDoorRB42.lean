/- EngT, EngU -/
import Derived.Test.YtlapliclhfpgkaaDoorRB37
import Derived.Test.YtlapliclhfpgkaaDoorRB40
import Derived.Test.YtlapliclhfpgkaaDoorRB41
namespace Go.Proofs.YtlapliclhfpgkaaDoor
open Go.RowKit
theorem Small.short {s : St} (h : Small s) : Short s := by
  obtain ⟨h1, h2, h3⟩ := h
  refine ⟨h1, h2, fun t ht => ?_⟩
  have hb := h3 (fibAt s t) (List.mem_of_getElem? (getD_of_lt s.fibers t Fb.zero ht))
  exact ⟨hb.1, fun j hj => hb.2 (frAt s t j) (List.mem_of_getElem? (getD_of_lt (fibAt s t).frames j Fr.zero hj))⟩
def stpS (p : List Fn) (s : St) : St × Int := if stErrS p s = 0 then oneS p s else (St.zero, stErrS p s)
def DoPost (r : St × Int) (w : World) (e : Ending) (w' : World) : Prop :=
  ∃ V, e = .returned (.tuple #[.agg #[V .fibers, .int .i64 r.1.now, V .out], .int .i64 r.2]) ∧ Own w.heap.size w' V r.1 ∧ Kept w w'
theorem doPost_none {w w' : World} {e : Int} (hk : Kept w w') : DoPost (St.zero, e) w (.returned (.tuple #[.agg #[.slice none 0 0, .int .i64 0, .slice none 0 0], .int .i64 e])) w' :=
  ⟨fun _ => .slice none 0 0, rfl, own_none _ _, hk⟩
theorem Own.low {base base' : Nat} {w : World} {V : Key → Value} {s : St} (h : Own base' w V s) (hb : base ≤ base') : Own base w V s := ⟨fun k hk => (h.piece k hk).low hb, h.apart⟩
set_option maxRecDepth 100000 in
set_option maxHeartbeats 4000000 in
theorem stepDo_bad (oa oo : Option Addr) (n m cap co : Nat) (c : Int) (vp : Value) (w : World) (er : Int) (he : er ≠ 0) (HCK : Hid (∀ u, Kept w u → Calls Tryd.prog 14 #[vp, .agg #[.slice oa n cap, .int .i64 c, .slice oo m co]] u fun e w' => e = .returned (.int .i64 er) ∧ Kept u w')) :
    Calls Tryd.prog 18 #[vp, .agg #[.slice oa n cap, .int .i64 c, .slice oo m co]] w (DoPost (St.zero, er) w) := by
  go_enter Tryd.func18, Tryd.ntmps18
  go_wp2_with fail
  generalize hw2 : ((w.alloc (.cells #[.slice oa n cap, .int .i64 c, .slice oo m co] 35)).alloc (.cells #[.slice none 0 0, .int .i64 0, .slice none 0 0] 35)) = w2
  have hk2 : Kept w w2 := by rw [← hw2]; exact ((Kept.refl w).alloc _).alloc _
  have lX : w2.heap[w.heap.size]? = some (.cells #[.slice oa n cap, .int .i64 c, .slice oo m co] 35) := by rw [← hw2]; exact lays_alloc (lays_new rfl) _
  have lR : w2.heap[w.heap.size + 1]? = some (.cells #[.slice none 0 0, .int .i64 0, .slice none 0 0] 35) := by rw [← hw2]; exact lays_new (by simp)
  clear hw2
  refine ((unhide HCK) w2 hk2).mono ?_
  rintro e w3 ⟨rfl, hk3⟩
  have lX3 := lays_kept hk3 lX
  have lR3 := lays_kept hk3 lR
  have x0 : w3.cell? ⟨w.heap.size, 0, none⟩ = some (.slice oa n cap) := cell_lays lX3 0
  have x1 : w3.cell? ⟨w.heap.size, 1, none⟩ = some (.int .i64 c) := cell_lays lX3 1
  have x2 : w3.cell? ⟨w.heap.size, 2, none⟩ = some (.slice oo m co) := cell_lays lX3 2
  have r0 : w3.cell? ⟨w.heap.size + 1, 0, none⟩ = some (.slice none 0 0) := cell_lays lR3 0
  have r1 : w3.cell? ⟨w.heap.size + 1, 1, none⟩ = some (.int .i64 0) := cell_lays lR3 1
  have r2 : w3.cell? ⟨w.heap.size + 1, 2, none⟩ = some (.slice none 0 0) := cell_lays lR3 2
  have f0 := frozen_lays lR3 0
  have f1 := frozen_lays lR3 1
  have f2 := frozen_lays lR3 2
  have HK := hide (hk2.trans hk3)
  have HR := hide lR3
  clear HCK hk2 hk3 lX lR lX3 lR3
  go_wp2
  have lR5 := lays_set (lays_set (lays_set (unhide HR) 0 (.slice none 0 0)) 1 (.int .i64 0)) 2 (.slice none 0 0)
  have hk5 := (((unhide HK).setCell (p := ⟨w.heap.size + 1, 0, none⟩) (Nat.le_succ _) (.slice none 0 0)).setCell (p := ⟨w.heap.size + 1, 1, none⟩) (Nat.le_succ _) (.int .i64 0)).setCell (p := ⟨w.heap.size + 1, 2, none⟩) (Nat.le_succ _) (.slice none 0 0)
  generalize (((w3.setCell ⟨w.heap.size + 1, 0, none⟩ (.slice none 0 0)).setCell ⟨w.heap.size + 1, 1, none⟩ (.int .i64 0)).setCell ⟨w.heap.size + 1, 2, none⟩ (.slice none 0 0)) = w5 at *
  have z0 : w5.cell? ⟨w.heap.size + 1, 0, none⟩ = some (.slice none 0 0) := cell_lays lR5 0
  have z1 : w5.cell? ⟨w.heap.size + 1, 1, none⟩ = some (.int .i64 0) := cell_lays lR5 1
  have z2 : w5.cell? ⟨w.heap.size + 1, 2, none⟩ = some (.slice none 0 0) := cell_lays lR5 2
  refine bodyPost_ret (v := .tuple #[.agg #[.slice none 0 0, .int .i64 0, .slice none 0 0], .int .i64 er]) (by simp [results, Tryd.results18, go_sem, z0, z1, z2]) rfl ?_
  exact doPost_none hk5
set_option maxRecDepth 100000 in
set_option maxHeartbeats 4000000 in
theorem stepDo_over (oa oo : Option Addr) (n m cap co : Nat) (c : Int) (vp : Value) (w : World) (hc : c = -1) (HCK : Hid (∀ u, Kept w u → Calls Tryd.prog 14 #[vp, .agg #[.slice oa n cap, .int .i64 c, .slice oo m co]] u fun e w' => e = .returned (.int .i64 0) ∧ Kept u w')) :
    Calls Tryd.prog 18 #[vp, .agg #[.slice oa n cap, .int .i64 c, .slice oo m co]] w (DoPost (St.zero, 8) w) := by
  subst hc
  go_enter Tryd.func18, Tryd.ntmps18
  go_wp2_with fail
  generalize hw2 : ((w.alloc (.cells #[.slice oa n cap, .int .i64 (-1), .slice oo m co] 35)).alloc (.cells #[.slice none 0 0, .int .i64 0, .slice none 0 0] 35)) = w2
  have hk2 : Kept w w2 := by rw [← hw2]; exact ((Kept.refl w).alloc _).alloc _
  have lX : w2.heap[w.heap.size]? = some (.cells #[.slice oa n cap, .int .i64 (-1), .slice oo m co] 35) := by rw [← hw2]; exact lays_alloc (lays_new rfl) _
  have lR : w2.heap[w.heap.size + 1]? = some (.cells #[.slice none 0 0, .int .i64 0, .slice none 0 0] 35) := by rw [← hw2]; exact lays_new (by simp)
  clear hw2
  refine ((unhide HCK) w2 hk2).mono ?_
  rintro e w3 ⟨rfl, hk3⟩
  have lX3 := lays_kept hk3 lX
  have lR3 := lays_kept hk3 lR
  have x0 : w3.cell? ⟨w.heap.size, 0, none⟩ = some (.slice oa n cap) := cell_lays lX3 0
  have x1 : w3.cell? ⟨w.heap.size, 1, none⟩ = some (.int .i64 (-1)) := cell_lays lX3 1
  have x2 : w3.cell? ⟨w.heap.size, 2, none⟩ = some (.slice oo m co) := cell_lays lX3 2
  have r0 : w3.cell? ⟨w.heap.size + 1, 0, none⟩ = some (.slice none 0 0) := cell_lays lR3 0
  have r1 : w3.cell? ⟨w.heap.size + 1, 1, none⟩ = some (.int .i64 0) := cell_lays lR3 1
  have r2 : w3.cell? ⟨w.heap.size + 1, 2, none⟩ = some (.slice none 0 0) := cell_lays lR3 2
  have f0 := frozen_lays lR3 0
  have f1 := frozen_lays lR3 1
  have f2 := frozen_lays lR3 2
  have HK := hide (hk2.trans hk3)
  have HR := hide lR3
  clear HCK hk2 hk3 lX lR lX3 lR3
  go_wp2
  have lR5 := lays_set (lays_set (lays_set (unhide HR) 0 (.slice none 0 0)) 1 (.int .i64 0)) 2 (.slice none 0 0)
  have hk5 := (((unhide HK).setCell (p := ⟨w.heap.size + 1, 0, none⟩) (Nat.le_succ _) (.slice none 0 0)).setCell (p := ⟨w.heap.size + 1, 1, none⟩) (Nat.le_succ _) (.int .i64 0)).setCell (p := ⟨w.heap.size + 1, 2, none⟩) (Nat.le_succ _) (.slice none 0 0)
  generalize (((w3.setCell ⟨w.heap.size + 1, 0, none⟩ (.slice none 0 0)).setCell ⟨w.heap.size + 1, 1, none⟩ (.int .i64 0)).setCell ⟨w.heap.size + 1, 2, none⟩ (.slice none 0 0)) = w5 at *
  have z0 : w5.cell? ⟨w.heap.size + 1, 0, none⟩ = some (.slice none 0 0) := cell_lays lR5 0
  have z1 : w5.cell? ⟨w.heap.size + 1, 1, none⟩ = some (.int .i64 0) := cell_lays lR5 1
  have z2 : w5.cell? ⟨w.heap.size + 1, 2, none⟩ = some (.slice none 0 0) := cell_lays lR5 2
  refine bodyPost_ret (v := .tuple #[.agg #[.slice none 0 0, .int .i64 0, .slice none 0 0], .int .i64 8]) (by simp [results, Tryd.results18, go_sem, z0, z1, z2]) rfl ?_
  exact doPost_none hk5
set_option maxRecDepth 100000 in
set_option maxHeartbeats 4000000 in
theorem stepDo_go (oa oo : Option Addr) (n m cap co : Nat) (c : Int) (vp : Value) (w : World) (hc : c ≠ -1) (s : St) (r : St × Int) (hc' : s.now = c) (HCK : Hid (∀ u, Kept w u → Calls Tryd.prog 14 #[vp, .agg #[.slice oa n cap, .int .i64 c, .slice oo m co]] u fun e w' => e = .returned (.int .i64 0) ∧ Kept u w'))
    (HCP : Hid (∀ u, Kept w u → Calls Tryd.prog 25 #[.agg #[.slice oa n cap, .int .i64 c, .slice oo m co]] u (CopyPost s u)))
    (HGO : Hid (∀ u V, Kept w u → ∀ b, w.heap.size ≤ b → b ≤ u.heap.size → Own b u V s → Calls Tryd.prog 30 #[vp, .agg #[V .fibers, .int .i64 s.now, V .out]] u (StepPost b r u))) :
    Calls Tryd.prog 18 #[vp, .agg #[.slice oa n cap, .int .i64 c, .slice oo m co]] w (DoPost r w) := by
  go_enter Tryd.func18, Tryd.ntmps18
  go_wp2_with fail
  generalize hw2 : ((w.alloc (.cells #[.slice oa n cap, .int .i64 c, .slice oo m co] 35)).alloc (.cells #[.slice none 0 0, .int .i64 0, .slice none 0 0] 35)) = w2
  have hk2 : Kept w w2 := by rw [← hw2]; exact ((Kept.refl w).alloc _).alloc _
  have lX : w2.heap[w.heap.size]? = some (.cells #[.slice oa n cap, .int .i64 c, .slice oo m co] 35) := by rw [← hw2]; exact lays_alloc (lays_new rfl) _
  have lR : w2.heap[w.heap.size + 1]? = some (.cells #[.slice none 0 0, .int .i64 0, .slice none 0 0] 35) := by rw [← hw2]; exact lays_new (by simp)
  clear hw2
  refine ((unhide HCK) w2 hk2).mono ?_
  rintro e w3 ⟨rfl, hk3⟩
  have lX3 := lays_kept hk3 lX
  have lR3 := lays_kept hk3 lR
  have x0 : w3.cell? ⟨w.heap.size, 0, none⟩ = some (.slice oa n cap) := cell_lays lX3 0
  have x1 : w3.cell? ⟨w.heap.size, 1, none⟩ = some (.int .i64 c) := cell_lays lX3 1
  have x2 : w3.cell? ⟨w.heap.size, 2, none⟩ = some (.slice oo m co) := cell_lays lX3 2
  have r0 : w3.cell? ⟨w.heap.size + 1, 0, none⟩ = some (.slice none 0 0) := cell_lays lR3 0
  have r1 : w3.cell? ⟨w.heap.size + 1, 1, none⟩ = some (.int .i64 0) := cell_lays lR3 1
  have r2 : w3.cell? ⟨w.heap.size + 1, 2, none⟩ = some (.slice none 0 0) := cell_lays lR3 2
  have f0 := frozen_lays lR3 0
  have f1 := frozen_lays lR3 1
  have f2 := frozen_lays lR3 2
  have HK := hide (hk2.trans hk3)
  have HR := hide lR3
  clear HCK hk2 hk3 lX lR lX3 lR3
  go_wp2_with fail
  refine ((unhide HCP) w3 (unhide HK)).mono ?_
  rintro e w4 ⟨V, rfl, ho4, hk4⟩
  obtain ⟨xs, hr, _⟩ := ho4.piece .fibers trivial
  obtain ⟨o1, c1, e1, _⟩ := row_slice hr
  have hr2 := ho4.piece .out trivial
  obtain ⟨o2, c2, e2, _⟩ := row_slice hr2
  have hgo := (unhide HGO) w4 V ((unhide HK).trans hk4) w3.heap.size (unhide HK).size hk4.size ho4
  rw [e1, e2] at hgo ⊢
  generalize s.fibers.length = N at *
  generalize s.out.length = M at *
  have HG := hide hgo
  have HK4 := hide hk4
  clear hgo hr hr2 e1 e2 ho4 HCP HGO hk4
  rw [hc'] at HG ⊢
  clear x0 x1 x2 r0 r1 r2 f0 f1 f2
  go_wp2_with fail
  refine (unhide HG).mono ?_
  rintro e w5 ⟨V5, rfl, ho5, hb5⟩
  obtain ⟨xs5, hr, _⟩ := ho5.piece .fibers trivial
  obtain ⟨o3, c3, e3, _⟩ := row_slice hr
  have hr2 := ho5.piece .out trivial
  obtain ⟨o5, c5, e5, _⟩ := row_slice hr2
  have hlt : w.heap.size + 1 < w3.heap.size := (Array.getElem?_eq_some_iff.1 (unhide HR)).1
  have lR5 := (hb5.block _ hlt).trans (lays_kept (unhide HK4) (unhide HR))
  have r0 : w5.cell? ⟨w.heap.size + 1, 0, none⟩ = some (.slice none 0 0) := cell_lays lR5 0
  have r1 : w5.cell? ⟨w.heap.size + 1, 1, none⟩ = some (.int .i64 0) := cell_lays lR5 1
  have r2 : w5.cell? ⟨w.heap.size + 1, 2, none⟩ = some (.slice none 0 0) := cell_lays lR5 2
  have f0 := frozen_lays lR5 0
  have f1 := frozen_lays lR5 1
  have f2 := frozen_lays lR5 2
  have hk5 : Kept w w5 := Below.trans ((unhide HK).trans (unhide HK4)) (Below.mono hb5 (unhide HK).size)
  have HO5 := hide ho5
  have HE3 := hide e3
  have HE5 := hide e5
  have HK5 := hide hk5
  have HL5 := hide lR5
  have HLT := hide hlt
  rw [e3, e5]
  clear e3 e5 hr hr2 ho5 hb5 HG HK4 hk5 lR5 hlt
  generalize r.1.fibers.length = N5 at *
  generalize r.1.out.length = M5 at *
  generalize hnn : r.1.now = nn at *
  generalize hee : r.2 = ee at *
  have HNN := hide (And.intro hnn hee)
  clear hnn hee
  go_wp2
  have l6 := lays_set (lays_set (lays_set (unhide HL5) 0 (.slice o3 N5 c3)) 1 (.int .i64 nn)) 2 (.slice o5 M5 c5)
  have hoff : Own.off V5 r.1 (w.heap.size + 1) := (unhide HO5).new_off (.inr (unhide HLT))
  have t6 := (((unhide HO5).setOff (a := ⟨w.heap.size + 1, 0, none⟩) hoff (.slice o3 N5 c3)).setOff (a := ⟨w.heap.size + 1, 1, none⟩) hoff (.int .i64 nn)).setOff (a := ⟨w.heap.size + 1, 2, none⟩) hoff (.slice o5 M5 c5)
  have hk6 := (((unhide HK5).setCell (p := ⟨w.heap.size + 1, 0, none⟩) (Nat.le_succ _) (.slice o3 N5 c3)).setCell (p := ⟨w.heap.size + 1, 1, none⟩) (Nat.le_succ _) (.int .i64 nn)).setCell (p := ⟨w.heap.size + 1, 2, none⟩) (Nat.le_succ _) (.slice o5 M5 c5)
  generalize (((w5.setCell ⟨w.heap.size + 1, 0, none⟩ (.slice o3 N5 c3)).setCell ⟨w.heap.size + 1, 1, none⟩ (.int .i64 nn)).setCell ⟨w.heap.size + 1, 2, none⟩ (.slice o5 M5 c5)) = w6 at *
  have z0 : w6.cell? ⟨w.heap.size + 1, 0, none⟩ = some (.slice o3 N5 c3) := cell_lays l6 0
  have z1 : w6.cell? ⟨w.heap.size + 1, 1, none⟩ = some (.int .i64 nn) := cell_lays l6 1
  have z2 : w6.cell? ⟨w.heap.size + 1, 2, none⟩ = some (.slice o5 M5 c5) := cell_lays l6 2
  refine bodyPost_ret (v := .tuple #[.agg #[.slice o3 N5 c3, .int .i64 nn, .slice o5 M5 c5], .int .i64 ee]) (by simp [results, Tryd.results18, go_sem, z0, z1, z2]) rfl ?_
  exact ⟨V5, by rw [unhide HE3, unhide HE5, (unhide HNN).1, (unhide HNN).2], t6.low (unhide HK).size, hk6⟩
theorem stepDo_any (p : List Fn) (s : St) (vp vs : Value) (w : World) (hp : ProgAt w vp p) (hs : StAt w vs s) (hkd : KindsAt w) :
    Calls Tryd.prog 18 #[vp, vs] w (DoPost (stpS p s) w) := by
  have HCK : ∀ u, Kept w u → Calls Tryd.prog 14 #[vp, vs] u fun e w' => e = .returned (.int .i64 (stErrS p s)) ∧ Kept u w' := fun u hu => stCheck_any p s vp vs u (hp.kept hu) (hs.kept hu) (hkd.kept hu)
  by_cases h0 : stErrS p s = 0
  · have hst : stpS p s = oneS p s := if_pos h0
    rw [hst]
    obtain ⟨_, hlim, _⟩ := right_parts h0
    obtain ⟨_, _, _, _, ⟨hn1, hn2⟩, _⟩ := limS_zero hlim
    rw [h0] at HCK
    have HCP : ∀ u, Kept w u → Calls Tryd.prog 25 #[vs] u (CopyPost s u) := fun u hu => ownState_copy s vs u (hs.kept hu) (right_small h0).short
    obtain ⟨vf, vo, rfl, ⟨oa, cap, rfl, _, _⟩, ⟨oo, co, rfl, _, _⟩⟩ := hs
    by_cases hnow : s.now = -1
    · have hone : oneS p s = (St.zero, 8) := if_pos (by omega)
      rw [hone]
      exact stepDo_over oa oo _ _ cap co s.now vp w hnow (hide HCK)
    · have hone : oneS p s = doneS p s := if_neg (by omega)
      rw [hone]
      exact stepDo_go oa oo _ _ cap co s.now vp w hnow s (doneS p s) rfl (hide HCK) (hide HCP) (hide (fun u V hu b hb hbu ho => eStepped_any b V p s vp u w hp hu hb hbu ho h0 (by omega)))
  · have hst : stpS p s = (St.zero, stErrS p s) := if_neg h0
    rw [hst]
    obtain ⟨vf, vo, rfl, ⟨oa, cap, rfl, _, _⟩, ⟨oo, co, rfl, _, _⟩⟩ := hs
    exact stepDo_bad oa oo _ _ cap co s.now vp w _ h0 (hide HCK)
end Go.Proofs.YtlapliclhfpgkaaDoor
namespace Go.Proofs.YtlapliclhfpgkaaDoor
open Go.RowKit
def RnPost (r : St × Nat × Int) (w : World) (e : Ending) (w' : World) : Prop :=
  ∃ V, e = .returned (.tuple #[.agg #[V .fibers, .int .i64 r.1.now, V .out], .int .i64 r.2.1, .int .i64 r.2.2]) ∧ Own w.heap.size w' V r.1 ∧ Kept w w'
theorem rnPost_none {w w' : World} {e : Int} (hk : Kept w w') : RnPost (St.zero, 0, e) w (.returned (.tuple #[.agg #[.slice none 0 0, .int .i64 0, .slice none 0 0], .int .i64 0, .int .i64 e])) w' :=
  ⟨fun _ => .slice none 0 0, rfl, own_none _ _, hk⟩
theorem lays3 {u : World} {B : Nat} {a b c x y z : Value} {t : TypeId} (h : u.heap[B]? = some (.cells #[a, b, c] t)) : (((u.setCell ⟨B, 0, none⟩ x).setCell ⟨B, 1, none⟩ y).setCell ⟨B, 2, none⟩ z).heap[B]? = some (.cells #[x, y, z] t) := by
  rw [lays_set (lays_set (lays_set h 0 x) 1 y) 2 z]
  rfl
set_option maxRecDepth 100000 in
set_option maxHeartbeats 400000 in
theorem isFuel_any (n : Int) (w : World) : Calls Tryd.prog 24 #[.int .i64 n] w fun e w' => e = .returned (.bool (inB n 0 500)) ∧ w = w' := by
  by_cases h1 : 0 ≤ n
  · by_cases h2 : n ≤ 500
    · rw [inB_true h1 h2]
      go_enter Tryd.func24, Tryd.ntmps24
      go_wp2
      go_ret
      exact ⟨rfl, rfl⟩
    · rw [inB_false (by omega)]
      go_enter Tryd.func24, Tryd.ntmps24
      go_wp2
      go_ret
      exact ⟨rfl, rfl⟩
  · rw [inB_false (by omega)]
    go_enter Tryd.func24, Tryd.ntmps24
    go_wp2
    go_ret
    exact ⟨rfl, rfl⟩
set_option maxRecDepth 100000 in
set_option maxHeartbeats 4000000 in
theorem run_far (oa oo : Option Addr) (n m cap co : Nat) (c : Int) (vp : Value) (fuel : Int) (w : World) (hin : inB fuel 0 500 = false) : Calls Tryd.prog 13 #[vp, .agg #[.slice oa n cap, .int .i64 c, .slice oo m co], .int .i64 fuel] w (RnPost (St.zero, 0, 3) w) := by
  go_enter Tryd.func13, Tryd.ntmps13
  go_wp2_with (go_at_call 24; refine (isFuel_any _ _).mono ?_; rw [hin]; rintro e w' ⟨rfl, rfl⟩; refine unhide ?_)
  refine hide ?_
  generalize hw2 : ((w.alloc (.cells #[.slice oa n cap, .int .i64 c, .slice oo m co] 35)).alloc (.cells #[.slice none 0 0, .int .i64 0, .slice none 0 0] 35)) = w2
  have hk2 : Kept w w2 := by rw [← hw2]; exact ((Kept.refl w).alloc _).alloc _
  have hz2 : w2.heap.size = w.heap.size + 2 := by rw [← hw2]; simp
  have lX : w2.heap[w.heap.size]? = some (.cells #[.slice oa n cap, .int .i64 c, .slice oo m co] 35) := by rw [← hw2]; exact lays_alloc (lays_new rfl) _
  have lR : w2.heap[w.heap.size + 1]? = some (.cells #[.slice none 0 0, .int .i64 0, .slice none 0 0] 35) := by rw [← hw2]; exact lays_new (by simp)
  clear hw2
  have r0 : w2.cell? ⟨w.heap.size + 1, 0, none⟩ = some (.slice none 0 0) := cell_lays lR 0
  have r1 : w2.cell? ⟨w.heap.size + 1, 1, none⟩ = some (.int .i64 0) := cell_lays lR 1
  have r2 : w2.cell? ⟨w.heap.size + 1, 2, none⟩ = some (.slice none 0 0) := cell_lays lR 2
  have f0 := frozen_lays lR 0
  have f1 := frozen_lays lR 1
  have f2 := frozen_lays lR 2
  have HK := hide hk2
  have HR := hide lR
  clear hk2 hz2 lX lR
  go_wp2
  have l6 := lays3 (x := .slice none 0 0) (y := .int .i64 0) (z := .slice none 0 0) (unhide HR)
  have hk6 := (((unhide HK).setCell (p := ⟨w.heap.size + 1, 0, none⟩) (Nat.le_succ _) (.slice none 0 0)).setCell (p := ⟨w.heap.size + 1, 1, none⟩) (Nat.le_succ _) (.int .i64 0)).setCell (p := ⟨w.heap.size + 1, 2, none⟩) (Nat.le_succ _) (.slice none 0 0)
  generalize (((w2.setCell ⟨w.heap.size + 1, 0, none⟩ (.slice none 0 0)).setCell ⟨w.heap.size + 1, 1, none⟩ (.int .i64 0)).setCell ⟨w.heap.size + 1, 2, none⟩ (.slice none 0 0)) = w6 at *
  have z0 : w6.cell? ⟨w.heap.size + 1, 0, none⟩ = some (.slice none 0 0) := cell_lays l6 0
  have z1 : w6.cell? ⟨w.heap.size + 1, 1, none⟩ = some (.int .i64 0) := cell_lays l6 1
  have z2 : w6.cell? ⟨w.heap.size + 1, 2, none⟩ = some (.slice none 0 0) := cell_lays l6 2
  refine bodyPost_ret (v := .tuple #[.agg #[.slice none 0 0, .int .i64 0, .slice none 0 0], .int .i64 0, .int .i64 3]) (by simp [results, Tryd.results13, go_sem, z0, z1, z2]) rfl ?_
  exact rnPost_none hk6
set_option maxRecDepth 100000 in
set_option maxHeartbeats 4000000 in
theorem run_bad (oa oo : Option Addr) (n m cap co : Nat) (c : Int) (vp : Value) (fuel : Int) (w : World) (er : Int) (he : er ≠ 0) (hin : inB fuel 0 500 = true) (HCK : Hid (∀ u, Kept w u → Calls Tryd.prog 14 #[vp, .agg #[.slice oa n cap, .int .i64 c, .slice oo m co]] u fun e w' => e = .returned (.int .i64 er) ∧ Kept u w')) : Calls Tryd.prog 13 #[vp, .agg #[.slice oa n cap, .int .i64 c, .slice oo m co], .int .i64 fuel] w (RnPost (St.zero, 0, er) w) := by
  go_enter Tryd.func13, Tryd.ntmps13
  go_wp2_with (go_at_call 24; refine (isFuel_any _ _).mono ?_; rw [hin]; rintro e w' ⟨rfl, rfl⟩; refine unhide ?_)
  refine hide ?_
  generalize hw2 : ((w.alloc (.cells #[.slice oa n cap, .int .i64 c, .slice oo m co] 35)).alloc (.cells #[.slice none 0 0, .int .i64 0, .slice none 0 0] 35)) = w2
  have hk2 : Kept w w2 := by rw [← hw2]; exact ((Kept.refl w).alloc _).alloc _
  have hz2 : w2.heap.size = w.heap.size + 2 := by rw [← hw2]; simp
  have lX : w2.heap[w.heap.size]? = some (.cells #[.slice oa n cap, .int .i64 c, .slice oo m co] 35) := by rw [← hw2]; exact lays_alloc (lays_new rfl) _
  have lR : w2.heap[w.heap.size + 1]? = some (.cells #[.slice none 0 0, .int .i64 0, .slice none 0 0] 35) := by rw [← hw2]; exact lays_new (by simp)
  clear hw2
  have x0 : w2.cell? ⟨w.heap.size, 0, none⟩ = some (.slice oa n cap) := cell_lays lX 0
  have x1 : w2.cell? ⟨w.heap.size, 1, none⟩ = some (.int .i64 c) := cell_lays lX 1
  have x2 : w2.cell? ⟨w.heap.size, 2, none⟩ = some (.slice oo m co) := cell_lays lX 2
  go_wp2_with fail
  refine ((unhide HCK) w2 hk2).mono ?_
  rintro e w3 ⟨rfl, hk3⟩
  have lX3 := lays_kept hk3 lX
  have lR3 := lays_kept hk3 lR
  clear x0 x1 x2
  have r0 : w3.cell? ⟨w.heap.size + 1, 0, none⟩ = some (.slice none 0 0) := cell_lays lR3 0
  have r1 : w3.cell? ⟨w.heap.size + 1, 1, none⟩ = some (.int .i64 0) := cell_lays lR3 1
  have r2 : w3.cell? ⟨w.heap.size + 1, 2, none⟩ = some (.slice none 0 0) := cell_lays lR3 2
  have f0 := frozen_lays lR3 0
  have f1 := frozen_lays lR3 1
  have f2 := frozen_lays lR3 2
  have HK := hide (hk2.trans hk3)
  have HR := hide lR3
  clear hk2 hk3 hz2 lX lR lX3 lR3 HCK
  go_wp2
  have l6 := lays3 (x := .slice none 0 0) (y := .int .i64 0) (z := .slice none 0 0) (unhide HR)
  have hk6 := (((unhide HK).setCell (p := ⟨w.heap.size + 1, 0, none⟩) (Nat.le_succ _) (.slice none 0 0)).setCell (p := ⟨w.heap.size + 1, 1, none⟩) (Nat.le_succ _) (.int .i64 0)).setCell (p := ⟨w.heap.size + 1, 2, none⟩) (Nat.le_succ _) (.slice none 0 0)
  generalize (((w3.setCell ⟨w.heap.size + 1, 0, none⟩ (.slice none 0 0)).setCell ⟨w.heap.size + 1, 1, none⟩ (.int .i64 0)).setCell ⟨w.heap.size + 1, 2, none⟩ (.slice none 0 0)) = w6 at *
  have z0 : w6.cell? ⟨w.heap.size + 1, 0, none⟩ = some (.slice none 0 0) := cell_lays l6 0
  have z1 : w6.cell? ⟨w.heap.size + 1, 1, none⟩ = some (.int .i64 0) := cell_lays l6 1
  have z2 : w6.cell? ⟨w.heap.size + 1, 2, none⟩ = some (.slice none 0 0) := cell_lays l6 2
  refine bodyPost_ret (v := .tuple #[.agg #[.slice none 0 0, .int .i64 0, .slice none 0 0], .int .i64 0, .int .i64 er]) (by simp [results, Tryd.results13, go_sem, z0, z1, z2]) rfl ?_
  exact rnPost_none hk6
end Go.Proofs.YtlapliclhfpgkaaDoor
