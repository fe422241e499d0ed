/- EngT, EngU, EngV, EngW, StateC, StateF -/
import Derived.Test.YtokhibfenccijaaGreatDoorKB35
import Derived.Test.YtokhibfenccijaaGreatDoorKB37
import Derived.Test.YtokhibfenccijaaGreatDoorKB38
import Derived.Test.YtokhibfenccijaaGreatDoorKB26
import Derived.Test.YtokhibfenccijaaGreatDoorKB21
import Derived.Test.YtokhibfenccijaaGreatDoorKB04
set_option maxRecDepth 100000
set_option maxHeartbeats 8000000
namespace Go.Proofs.YtokhibfenccijaaGreatDoor
open Go.RowKit
theorem Small.short {s : St} (h : Small s) : Short s := by
  obtain ⟨h1, h2, h3⟩ := h
  refine ⟨h1, h2, fun t ht => ?_⟩
  have hb := h3 (fibAt s t) (List.mem_of_getElem? (getD_of_lt s.fibers t Fb.zero ht))
  exact ⟨hb.1, fun j hj => hb.2 (frAt s t j) (List.mem_of_getElem? (getD_of_lt (fibAt s t).frames j Fr.zero hj))⟩
def stpS (p : List Fn) (s : St) : St × Int := if stErrS p s = 0 then oneS p s else (St.zero, stErrS p s)
def DoPost (r : St × Int) (w : World) (e : Ending) (w' : World) : Prop :=
  ∃ V, e = .returned (.tuple #[.agg #[V .fibers, .int .i64 r.1.now, V .out], .int .i64 r.2]) ∧ Own w.heap.size w' V r.1 ∧ Kept w w'
theorem doPost_none {w w' : World} {e : Int} (hk : Kept w w') : DoPost (St.zero, e) w (.returned (.tuple #[.agg #[.slice none 0 0, .int .i64 0, .slice none 0 0], .int .i64 e])) w' :=
  ⟨fun _ => .slice none 0 0, rfl, own_none _ _, hk⟩
theorem Own.low {base base' : Nat} {w : World} {V : Key → Value} {s : St} (h : Own base' w V s) (hb : base ≤ base') : Own base w V s := ⟨fun k hk => (h.piece k hk).low hb, h.apart⟩
theorem stepDo_bad (oa oo : Option Addr) (n m cap co : Nat) (c : Int) (vp : Value) (w : World) (er : Int) (he : er ≠ 0) (HCK : Hid (∀ u, Kept w u → Calls Tryz.prog 59 #[vp, .agg #[.slice oa n cap, .int .i64 c, .slice oo m co]] u fun e w' => e = .returned (.int .i64 er) ∧ Kept u w')) :
    Calls Tryz.prog 61 #[vp, .agg #[.slice oa n cap, .int .i64 c, .slice oo m co]] w (DoPost (St.zero, er) w) := by
  go_enter Tryz.func61, Tryz.ntmps61
  go_wp2_with fail
  generalize hw2 : ((w.alloc (.cells #[.slice oa n cap, .int .i64 c, .slice oo m co] 44)).alloc (.cells #[.slice none 0 0, .int .i64 0, .slice none 0 0] 44)) = w2
  have hk2 : Kept w w2 := by rw [← hw2]; exact ((Kept.refl w).alloc _).alloc _
  have lX : w2.heap[w.heap.size]? = some (.cells #[.slice oa n cap, .int .i64 c, .slice oo m co] 44) := by rw [← hw2]; exact lays_alloc (lays_new rfl) _
  have lR : w2.heap[w.heap.size + 1]? = some (.cells #[.slice none 0 0, .int .i64 0, .slice none 0 0] 44) := by rw [← hw2]; exact lays_new (by simp)
  clear hw2
  refine ((unhide HCK) w2 hk2).mono ?_
  rintro e w3 ⟨rfl, hk3⟩
  have lX3 := lays_kept hk3 lX
  have lR3 := lays_kept hk3 lR
  have x0 : w3.cell? ⟨w.heap.size, 0, none⟩ = some (.slice oa n cap) := cell_lays lX3 0
  have x1 : w3.cell? ⟨w.heap.size, 1, none⟩ = some (.int .i64 c) := cell_lays lX3 1
  have x2 : w3.cell? ⟨w.heap.size, 2, none⟩ = some (.slice oo m co) := cell_lays lX3 2
  have r0 : w3.cell? ⟨w.heap.size + 1, 0, none⟩ = some (.slice none 0 0) := cell_lays lR3 0
  have r1 : w3.cell? ⟨w.heap.size + 1, 1, none⟩ = some (.int .i64 0) := cell_lays lR3 1
  have r2 : w3.cell? ⟨w.heap.size + 1, 2, none⟩ = some (.slice none 0 0) := cell_lays lR3 2
  have f0 := frozen_lays lR3 0
  have f1 := frozen_lays lR3 1
  have f2 := frozen_lays lR3 2
  have HK := hide (hk2.trans hk3)
  have HR := hide lR3
  clear HCK hk2 hk3 lX lR lX3 lR3
  go_wp2
  have lR5 := lays_set (lays_set (lays_set (unhide HR) 0 (.slice none 0 0)) 1 (.int .i64 0)) 2 (.slice none 0 0)
  have hk5 := (((unhide HK).setCell (p := ⟨w.heap.size + 1, 0, none⟩) (Nat.le_succ _) (.slice none 0 0)).setCell (p := ⟨w.heap.size + 1, 1, none⟩) (Nat.le_succ _) (.int .i64 0)).setCell (p := ⟨w.heap.size + 1, 2, none⟩) (Nat.le_succ _) (.slice none 0 0)
  generalize (((w3.setCell ⟨w.heap.size + 1, 0, none⟩ (.slice none 0 0)).setCell ⟨w.heap.size + 1, 1, none⟩ (.int .i64 0)).setCell ⟨w.heap.size + 1, 2, none⟩ (.slice none 0 0)) = w5 at *
  have z0 : w5.cell? ⟨w.heap.size + 1, 0, none⟩ = some (.slice none 0 0) := cell_lays lR5 0
  have z1 : w5.cell? ⟨w.heap.size + 1, 1, none⟩ = some (.int .i64 0) := cell_lays lR5 1
  have z2 : w5.cell? ⟨w.heap.size + 1, 2, none⟩ = some (.slice none 0 0) := cell_lays lR5 2
  refine bodyPost_ret (v := .tuple #[.agg #[.slice none 0 0, .int .i64 0, .slice none 0 0], .int .i64 er]) (by simp [results, Tryz.results61, go_sem, z0, z1, z2]) rfl ?_
  exact doPost_none hk5
theorem stepDo_over (oa oo : Option Addr) (n m cap co : Nat) (c : Int) (vp : Value) (w : World) (hc : c = -1) (HCK : Hid (∀ u, Kept w u → Calls Tryz.prog 59 #[vp, .agg #[.slice oa n cap, .int .i64 c, .slice oo m co]] u fun e w' => e = .returned (.int .i64 0) ∧ Kept u w')) :
    Calls Tryz.prog 61 #[vp, .agg #[.slice oa n cap, .int .i64 c, .slice oo m co]] w (DoPost (St.zero, 8) w) := by
  subst hc
  go_enter Tryz.func61, Tryz.ntmps61
  go_wp2_with fail
  generalize hw2 : ((w.alloc (.cells #[.slice oa n cap, .int .i64 (-1), .slice oo m co] 44)).alloc (.cells #[.slice none 0 0, .int .i64 0, .slice none 0 0] 44)) = w2
  have hk2 : Kept w w2 := by rw [← hw2]; exact ((Kept.refl w).alloc _).alloc _
  have lX : w2.heap[w.heap.size]? = some (.cells #[.slice oa n cap, .int .i64 (-1), .slice oo m co] 44) := by rw [← hw2]; exact lays_alloc (lays_new rfl) _
  have lR : w2.heap[w.heap.size + 1]? = some (.cells #[.slice none 0 0, .int .i64 0, .slice none 0 0] 44) := by rw [← hw2]; exact lays_new (by simp)
  clear hw2
  refine ((unhide HCK) w2 hk2).mono ?_
  rintro e w3 ⟨rfl, hk3⟩
  have lX3 := lays_kept hk3 lX
  have lR3 := lays_kept hk3 lR
  have x0 : w3.cell? ⟨w.heap.size, 0, none⟩ = some (.slice oa n cap) := cell_lays lX3 0
  have x1 : w3.cell? ⟨w.heap.size, 1, none⟩ = some (.int .i64 (-1)) := cell_lays lX3 1
  have x2 : w3.cell? ⟨w.heap.size, 2, none⟩ = some (.slice oo m co) := cell_lays lX3 2
  have r0 : w3.cell? ⟨w.heap.size + 1, 0, none⟩ = some (.slice none 0 0) := cell_lays lR3 0
  have r1 : w3.cell? ⟨w.heap.size + 1, 1, none⟩ = some (.int .i64 0) := cell_lays lR3 1
  have r2 : w3.cell? ⟨w.heap.size + 1, 2, none⟩ = some (.slice none 0 0) := cell_lays lR3 2
  have f0 := frozen_lays lR3 0
  have f1 := frozen_lays lR3 1
  have f2 := frozen_lays lR3 2
  have HK := hide (hk2.trans hk3)
  have HR := hide lR3
  clear HCK hk2 hk3 lX lR lX3 lR3
  go_wp2
  have lR5 := lays_set (lays_set (lays_set (unhide HR) 0 (.slice none 0 0)) 1 (.int .i64 0)) 2 (.slice none 0 0)
  have hk5 := (((unhide HK).setCell (p := ⟨w.heap.size + 1, 0, none⟩) (Nat.le_succ _) (.slice none 0 0)).setCell (p := ⟨w.heap.size + 1, 1, none⟩) (Nat.le_succ _) (.int .i64 0)).setCell (p := ⟨w.heap.size + 1, 2, none⟩) (Nat.le_succ _) (.slice none 0 0)
  generalize (((w3.setCell ⟨w.heap.size + 1, 0, none⟩ (.slice none 0 0)).setCell ⟨w.heap.size + 1, 1, none⟩ (.int .i64 0)).setCell ⟨w.heap.size + 1, 2, none⟩ (.slice none 0 0)) = w5 at *
  have z0 : w5.cell? ⟨w.heap.size + 1, 0, none⟩ = some (.slice none 0 0) := cell_lays lR5 0
  have z1 : w5.cell? ⟨w.heap.size + 1, 1, none⟩ = some (.int .i64 0) := cell_lays lR5 1
  have z2 : w5.cell? ⟨w.heap.size + 1, 2, none⟩ = some (.slice none 0 0) := cell_lays lR5 2
  refine bodyPost_ret (v := .tuple #[.agg #[.slice none 0 0, .int .i64 0, .slice none 0 0], .int .i64 8]) (by simp [results, Tryz.results61, go_sem, z0, z1, z2]) rfl ?_
  exact doPost_none hk5
theorem stepDo_go (oa oo : Option Addr) (n m cap co : Nat) (c : Int) (vp : Value) (w : World) (hc : c ≠ -1) (s : St) (r : St × Int) (hc' : s.now = c) (HCK : Hid (∀ u, Kept w u → Calls Tryz.prog 59 #[vp, .agg #[.slice oa n cap, .int .i64 c, .slice oo m co]] u fun e w' => e = .returned (.int .i64 0) ∧ Kept u w'))
    (HCP : Hid (∀ u, Kept w u → Calls Tryz.prog 60 #[.agg #[.slice oa n cap, .int .i64 c, .slice oo m co]] u (CopyPost s u)))
    (HGO : Hid (∀ u V, Kept w u → ∀ b, w.heap.size ≤ b → b ≤ u.heap.size → Own b u V s → Calls Tryz.prog 92 #[vp, .agg #[V .fibers, .int .i64 s.now, V .out]] u (StepPost b r u))) :
    Calls Tryz.prog 61 #[vp, .agg #[.slice oa n cap, .int .i64 c, .slice oo m co]] w (DoPost r w) := by
  go_enter Tryz.func61, Tryz.ntmps61
  go_wp2_with fail
  generalize hw2 : ((w.alloc (.cells #[.slice oa n cap, .int .i64 c, .slice oo m co] 44)).alloc (.cells #[.slice none 0 0, .int .i64 0, .slice none 0 0] 44)) = w2
  have hk2 : Kept w w2 := by rw [← hw2]; exact ((Kept.refl w).alloc _).alloc _
  have lX : w2.heap[w.heap.size]? = some (.cells #[.slice oa n cap, .int .i64 c, .slice oo m co] 44) := by rw [← hw2]; exact lays_alloc (lays_new rfl) _
  have lR : w2.heap[w.heap.size + 1]? = some (.cells #[.slice none 0 0, .int .i64 0, .slice none 0 0] 44) := by rw [← hw2]; exact lays_new (by simp)
  clear hw2
  refine ((unhide HCK) w2 hk2).mono ?_
  rintro e w3 ⟨rfl, hk3⟩
  have lX3 := lays_kept hk3 lX
  have lR3 := lays_kept hk3 lR
  have x0 : w3.cell? ⟨w.heap.size, 0, none⟩ = some (.slice oa n cap) := cell_lays lX3 0
  have x1 : w3.cell? ⟨w.heap.size, 1, none⟩ = some (.int .i64 c) := cell_lays lX3 1
  have x2 : w3.cell? ⟨w.heap.size, 2, none⟩ = some (.slice oo m co) := cell_lays lX3 2
  have r0 : w3.cell? ⟨w.heap.size + 1, 0, none⟩ = some (.slice none 0 0) := cell_lays lR3 0
  have r1 : w3.cell? ⟨w.heap.size + 1, 1, none⟩ = some (.int .i64 0) := cell_lays lR3 1
  have r2 : w3.cell? ⟨w.heap.size + 1, 2, none⟩ = some (.slice none 0 0) := cell_lays lR3 2
  have f0 := frozen_lays lR3 0
  have f1 := frozen_lays lR3 1
  have f2 := frozen_lays lR3 2
  have HK := hide (hk2.trans hk3)
  have HR := hide lR3
  clear HCK hk2 hk3 lX lR lX3 lR3
  go_wp2_with fail
  refine ((unhide HCP) w3 (unhide HK)).mono ?_
  rintro e w4 ⟨V, rfl, ho4, hk4⟩
  obtain ⟨xs, hr, _⟩ := ho4.piece .fibers trivial
  obtain ⟨o1, c1, e1, _⟩ := row_slice hr
  have hr2 := ho4.piece .out trivial
  obtain ⟨o2, c2, e2, _⟩ := row_slice hr2
  have hgo := (unhide HGO) w4 V ((unhide HK).trans hk4) w3.heap.size (unhide HK).size hk4.size ho4
  rw [e1, e2] at hgo ⊢
  generalize s.fibers.length = N at *
  generalize s.out.length = M at *
  have HG := hide hgo
  have HK4 := hide hk4
  clear hgo hr hr2 e1 e2 ho4 HCP HGO hk4
  rw [hc'] at HG ⊢
  clear x0 x1 x2 r0 r1 r2 f0 f1 f2
  go_wp2_with fail
  refine (unhide HG).mono ?_
  rintro e w5 ⟨V5, rfl, ho5, hb5⟩
  obtain ⟨xs5, hr, _⟩ := ho5.piece .fibers trivial
  obtain ⟨o3, c3, e3, _⟩ := row_slice hr
  have hr2 := ho5.piece .out trivial
  obtain ⟨o5, c5, e5, _⟩ := row_slice hr2
  have hlt : w.heap.size + 1 < w3.heap.size := (Array.getElem?_eq_some_iff.1 (unhide HR)).1
  have lR5 := (hb5.block _ hlt).trans (lays_kept (unhide HK4) (unhide HR))
  have r0 : w5.cell? ⟨w.heap.size + 1, 0, none⟩ = some (.slice none 0 0) := cell_lays lR5 0
  have r1 : w5.cell? ⟨w.heap.size + 1, 1, none⟩ = some (.int .i64 0) := cell_lays lR5 1
  have r2 : w5.cell? ⟨w.heap.size + 1, 2, none⟩ = some (.slice none 0 0) := cell_lays lR5 2
  have f0 := frozen_lays lR5 0
  have f1 := frozen_lays lR5 1
  have f2 := frozen_lays lR5 2
  have hk5 : Kept w w5 := Below.trans ((unhide HK).trans (unhide HK4)) (Below.mono hb5 (unhide HK).size)
  have HO5 := hide ho5
  have HE3 := hide e3
  have HE5 := hide e5
  have HK5 := hide hk5
  have HL5 := hide lR5
  have HLT := hide hlt
  rw [e3, e5]
  clear e3 e5 hr hr2 ho5 hb5 HG HK4 hk5 lR5 hlt
  generalize r.1.fibers.length = N5 at *
  generalize r.1.out.length = M5 at *
  generalize hnn : r.1.now = nn at *
  generalize hee : r.2 = ee at *
  have HNN := hide (And.intro hnn hee)
  clear hnn hee
  go_wp2
  have l6 := lays_set (lays_set (lays_set (unhide HL5) 0 (.slice o3 N5 c3)) 1 (.int .i64 nn)) 2 (.slice o5 M5 c5)
  have hoff : Own.off V5 r.1 (w.heap.size + 1) := (unhide HO5).new_off (.inr (unhide HLT))
  have t6 := (((unhide HO5).setOff (a := ⟨w.heap.size + 1, 0, none⟩) hoff (.slice o3 N5 c3)).setOff (a := ⟨w.heap.size + 1, 1, none⟩) hoff (.int .i64 nn)).setOff (a := ⟨w.heap.size + 1, 2, none⟩) hoff (.slice o5 M5 c5)
  have hk6 := (((unhide HK5).setCell (p := ⟨w.heap.size + 1, 0, none⟩) (Nat.le_succ _) (.slice o3 N5 c3)).setCell (p := ⟨w.heap.size + 1, 1, none⟩) (Nat.le_succ _) (.int .i64 nn)).setCell (p := ⟨w.heap.size + 1, 2, none⟩) (Nat.le_succ _) (.slice o5 M5 c5)
  generalize (((w5.setCell ⟨w.heap.size + 1, 0, none⟩ (.slice o3 N5 c3)).setCell ⟨w.heap.size + 1, 1, none⟩ (.int .i64 nn)).setCell ⟨w.heap.size + 1, 2, none⟩ (.slice o5 M5 c5)) = w6 at *
  have z0 : w6.cell? ⟨w.heap.size + 1, 0, none⟩ = some (.slice o3 N5 c3) := cell_lays l6 0
  have z1 : w6.cell? ⟨w.heap.size + 1, 1, none⟩ = some (.int .i64 nn) := cell_lays l6 1
  have z2 : w6.cell? ⟨w.heap.size + 1, 2, none⟩ = some (.slice o5 M5 c5) := cell_lays l6 2
  refine bodyPost_ret (v := .tuple #[.agg #[.slice o3 N5 c3, .int .i64 nn, .slice o5 M5 c5], .int .i64 ee]) (by simp [results, Tryz.results61, go_sem, z0, z1, z2]) rfl ?_
  exact ⟨V5, by rw [unhide HE3, unhide HE5, (unhide HNN).1, (unhide HNN).2], t6.low (unhide HK).size, hk6⟩
theorem stepDo_any (p : List Fn) (s : St) (vp vs : Value) (w : World) (hp : ProgAt w vp p) (hs : StAt w vs s) (hkd : KindsAt w) :
    Calls Tryz.prog 61 #[vp, vs] w (DoPost (stpS p s) w) := by
  have HCK : ∀ u, Kept w u → Calls Tryz.prog 59 #[vp, vs] u fun e w' => e = .returned (.int .i64 (stErrS p s)) ∧ Kept u w' := fun u hu => stCheck_any p s vp vs u (hp.kept hu) (hs.kept hu) (hkd.kept hu)
  by_cases h0 : stErrS p s = 0
  · have hst : stpS p s = oneS p s := if_pos h0
    rw [hst]
    obtain ⟨_, hlim, _⟩ := right_parts h0
    obtain ⟨_, _, _, _, ⟨hn1, hn2⟩, _⟩ := limS_zero hlim
    rw [h0] at HCK
    have HCP : ∀ u, Kept w u → Calls Tryz.prog 60 #[vs] u (CopyPost s u) := fun u hu => ownState_copy s vs u (hs.kept hu) (right_small h0).short
    obtain ⟨vf, vo, rfl, ⟨oa, cap, rfl, _, _⟩, ⟨oo, co, rfl, _, _⟩⟩ := hs
    by_cases hnow : s.now = -1
    · have hone : oneS p s = (St.zero, 8) := if_pos (by omega)
      rw [hone]
      exact stepDo_over oa oo _ _ cap co s.now vp w hnow (hide HCK)
    · have hone : oneS p s = doneS p s := if_neg (by omega)
      rw [hone]
      exact stepDo_go oa oo _ _ cap co s.now vp w hnow s (doneS p s) rfl (hide HCK) (hide HCP) (hide (fun u V hu b hb hbu ho => eStepped_any b V p s vp u w hp hu hb hbu ho h0 (by omega)))
  · have hst : stpS p s = (St.zero, stErrS p s) := if_neg h0
    rw [hst]
    obtain ⟨vf, vo, rfl, ⟨oa, cap, rfl, _, _⟩, ⟨oo, co, rfl, _, _⟩⟩ := hs
    exact stepDo_bad oa oo _ _ cap co s.now vp w _ h0 (hide HCK)
def RnPost (r : St × Nat × Int) (w : World) (e : Ending) (w' : World) : Prop :=
  ∃ V, e = .returned (.tuple #[.agg #[V .fibers, .int .i64 r.1.now, V .out], .int .i64 r.2.1, .int .i64 r.2.2]) ∧ Own w.heap.size w' V r.1 ∧ Kept w w'
theorem rnPost_none {w w' : World} {e : Int} (hk : Kept w w') : RnPost (St.zero, 0, e) w (.returned (.tuple #[.agg #[.slice none 0 0, .int .i64 0, .slice none 0 0], .int .i64 0, .int .i64 e])) w' :=
  ⟨fun _ => .slice none 0 0, rfl, own_none _ _, hk⟩
theorem lays3 {u : World} {B : Nat} {a b c x y z : Value} {t : TypeId} (h : u.heap[B]? = some (.cells #[a, b, c] t)) : (((u.setCell ⟨B, 0, none⟩ x).setCell ⟨B, 1, none⟩ y).setCell ⟨B, 2, none⟩ z).heap[B]? = some (.cells #[x, y, z] t) := by
  rw [lays_set (lays_set (lays_set h 0 x) 1 y) 2 z]
  rfl
theorem isFuel_any (n : Int) (w : World) : Calls Tryz.prog 28 #[.int .i64 n] w fun e w' => e = .returned (.bool (inB n 0 500)) ∧ w = w' := by
  by_cases h1 : 0 ≤ n
  · by_cases h2 : n ≤ 500
    · rw [inB_true h1 h2]
      go_enter Tryz.func28, Tryz.ntmps28
      go_wp2
      go_ret
      exact ⟨rfl, rfl⟩
    · rw [inB_false (by omega)]
      go_enter Tryz.func28, Tryz.ntmps28
      go_wp2
      go_ret
      exact ⟨rfl, rfl⟩
  · rw [inB_false (by omega)]
    go_enter Tryz.func28, Tryz.ntmps28
    go_wp2
    go_ret
    exact ⟨rfl, rfl⟩
theorem run_far (oa oo : Option Addr) (n m cap co : Nat) (c : Int) (vp : Value) (fuel : Int) (w : World) (hin : inB fuel 0 500 = false) : Calls Tryz.prog 30 #[vp, .agg #[.slice oa n cap, .int .i64 c, .slice oo m co], .int .i64 fuel] w (RnPost (St.zero, 0, 3) w) := by
  go_enter Tryz.func30, Tryz.ntmps30
  go_wp2_with (go_at_call 28; refine (isFuel_any _ _).mono ?_; rw [hin]; rintro e w' ⟨rfl, rfl⟩; refine unhide ?_)
  refine hide ?_
  generalize hw2 : ((w.alloc (.cells #[.slice oa n cap, .int .i64 c, .slice oo m co] 44)).alloc (.cells #[.slice none 0 0, .int .i64 0, .slice none 0 0] 44)) = w2
  have hk2 : Kept w w2 := by rw [← hw2]; exact ((Kept.refl w).alloc _).alloc _
  have hz2 : w2.heap.size = w.heap.size + 2 := by rw [← hw2]; simp
  have lX : w2.heap[w.heap.size]? = some (.cells #[.slice oa n cap, .int .i64 c, .slice oo m co] 44) := by rw [← hw2]; exact lays_alloc (lays_new rfl) _
  have lR : w2.heap[w.heap.size + 1]? = some (.cells #[.slice none 0 0, .int .i64 0, .slice none 0 0] 44) := by rw [← hw2]; exact lays_new (by simp)
  clear hw2
  have r0 : w2.cell? ⟨w.heap.size + 1, 0, none⟩ = some (.slice none 0 0) := cell_lays lR 0
  have r1 : w2.cell? ⟨w.heap.size + 1, 1, none⟩ = some (.int .i64 0) := cell_lays lR 1
  have r2 : w2.cell? ⟨w.heap.size + 1, 2, none⟩ = some (.slice none 0 0) := cell_lays lR 2
  have f0 := frozen_lays lR 0
  have f1 := frozen_lays lR 1
  have f2 := frozen_lays lR 2
  have HK := hide hk2
  have HR := hide lR
  clear hk2 hz2 lX lR
  go_wp2
  have l6 := lays3 (x := .slice none 0 0) (y := .int .i64 0) (z := .slice none 0 0) (unhide HR)
  have hk6 := (((unhide HK).setCell (p := ⟨w.heap.size + 1, 0, none⟩) (Nat.le_succ _) (.slice none 0 0)).setCell (p := ⟨w.heap.size + 1, 1, none⟩) (Nat.le_succ _) (.int .i64 0)).setCell (p := ⟨w.heap.size + 1, 2, none⟩) (Nat.le_succ _) (.slice none 0 0)
  generalize (((w2.setCell ⟨w.heap.size + 1, 0, none⟩ (.slice none 0 0)).setCell ⟨w.heap.size + 1, 1, none⟩ (.int .i64 0)).setCell ⟨w.heap.size + 1, 2, none⟩ (.slice none 0 0)) = w6 at *
  have z0 : w6.cell? ⟨w.heap.size + 1, 0, none⟩ = some (.slice none 0 0) := cell_lays l6 0
  have z1 : w6.cell? ⟨w.heap.size + 1, 1, none⟩ = some (.int .i64 0) := cell_lays l6 1
  have z2 : w6.cell? ⟨w.heap.size + 1, 2, none⟩ = some (.slice none 0 0) := cell_lays l6 2
  refine bodyPost_ret (v := .tuple #[.agg #[.slice none 0 0, .int .i64 0, .slice none 0 0], .int .i64 0, .int .i64 3]) (by simp [results, Tryz.results30, go_sem, z0, z1, z2]) rfl ?_
  exact rnPost_none hk6
theorem run_bad (oa oo : Option Addr) (n m cap co : Nat) (c : Int) (vp : Value) (fuel : Int) (w : World) (er : Int) (he : er ≠ 0) (hin : inB fuel 0 500 = true) (HCK : Hid (∀ u, Kept w u → Calls Tryz.prog 59 #[vp, .agg #[.slice oa n cap, .int .i64 c, .slice oo m co]] u fun e w' => e = .returned (.int .i64 er) ∧ Kept u w')) : Calls Tryz.prog 30 #[vp, .agg #[.slice oa n cap, .int .i64 c, .slice oo m co], .int .i64 fuel] w (RnPost (St.zero, 0, er) w) := by
  go_enter Tryz.func30, Tryz.ntmps30
  go_wp2_with (go_at_call 28; refine (isFuel_any _ _).mono ?_; rw [hin]; rintro e w' ⟨rfl, rfl⟩; refine unhide ?_)
  refine hide ?_
  generalize hw2 : ((w.alloc (.cells #[.slice oa n cap, .int .i64 c, .slice oo m co] 44)).alloc (.cells #[.slice none 0 0, .int .i64 0, .slice none 0 0] 44)) = w2
  have hk2 : Kept w w2 := by rw [← hw2]; exact ((Kept.refl w).alloc _).alloc _
  have hz2 : w2.heap.size = w.heap.size + 2 := by rw [← hw2]; simp
  have lX : w2.heap[w.heap.size]? = some (.cells #[.slice oa n cap, .int .i64 c, .slice oo m co] 44) := by rw [← hw2]; exact lays_alloc (lays_new rfl) _
  have lR : w2.heap[w.heap.size + 1]? = some (.cells #[.slice none 0 0, .int .i64 0, .slice none 0 0] 44) := by rw [← hw2]; exact lays_new (by simp)
  clear hw2
  have x0 : w2.cell? ⟨w.heap.size, 0, none⟩ = some (.slice oa n cap) := cell_lays lX 0
  have x1 : w2.cell? ⟨w.heap.size, 1, none⟩ = some (.int .i64 c) := cell_lays lX 1
  have x2 : w2.cell? ⟨w.heap.size, 2, none⟩ = some (.slice oo m co) := cell_lays lX 2
  go_wp2_with fail
  refine ((unhide HCK) w2 hk2).mono ?_
  rintro e w3 ⟨rfl, hk3⟩
  have lX3 := lays_kept hk3 lX
  have lR3 := lays_kept hk3 lR
  clear x0 x1 x2
  have r0 : w3.cell? ⟨w.heap.size + 1, 0, none⟩ = some (.slice none 0 0) := cell_lays lR3 0
  have r1 : w3.cell? ⟨w.heap.size + 1, 1, none⟩ = some (.int .i64 0) := cell_lays lR3 1
  have r2 : w3.cell? ⟨w.heap.size + 1, 2, none⟩ = some (.slice none 0 0) := cell_lays lR3 2
  have f0 := frozen_lays lR3 0
  have f1 := frozen_lays lR3 1
  have f2 := frozen_lays lR3 2
  have HK := hide (hk2.trans hk3)
  have HR := hide lR3
  clear hk2 hk3 hz2 lX lR lX3 lR3 HCK
  go_wp2
  have l6 := lays3 (x := .slice none 0 0) (y := .int .i64 0) (z := .slice none 0 0) (unhide HR)
  have hk6 := (((unhide HK).setCell (p := ⟨w.heap.size + 1, 0, none⟩) (Nat.le_succ _) (.slice none 0 0)).setCell (p := ⟨w.heap.size + 1, 1, none⟩) (Nat.le_succ _) (.int .i64 0)).setCell (p := ⟨w.heap.size + 1, 2, none⟩) (Nat.le_succ _) (.slice none 0 0)
  generalize (((w3.setCell ⟨w.heap.size + 1, 0, none⟩ (.slice none 0 0)).setCell ⟨w.heap.size + 1, 1, none⟩ (.int .i64 0)).setCell ⟨w.heap.size + 1, 2, none⟩ (.slice none 0 0)) = w6 at *
  have z0 : w6.cell? ⟨w.heap.size + 1, 0, none⟩ = some (.slice none 0 0) := cell_lays l6 0
  have z1 : w6.cell? ⟨w.heap.size + 1, 1, none⟩ = some (.int .i64 0) := cell_lays l6 1
  have z2 : w6.cell? ⟨w.heap.size + 1, 2, none⟩ = some (.slice none 0 0) := cell_lays l6 2
  refine bodyPost_ret (v := .tuple #[.agg #[.slice none 0 0, .int .i64 0, .slice none 0 0], .int .i64 0, .int .i64 er]) (by simp [results, Tryz.results30, go_sem, z0, z1, z2]) rfl ?_
  exact rnPost_none hk6
theorem run_walk (p : List Fn) (s : St) (RR : St × Nat × Int) (oa oo : Option Addr) (n m cap co : Nat) (c : Int) (vp : Value) (fuel : Nat) (w : World) (hf : fuel ≤ 500) (hsn : s.now = c) (HS0 : Hid (stErrS p s = 0)) (HRR : Hid (RR = runS p fuel s))
    (HCK : Hid (∀ u, Kept w u → Calls Tryz.prog 59 #[vp, .agg #[.slice oa n cap, .int .i64 c, .slice oo m co]] u fun e w' => e = .returned (.int .i64 0) ∧ Kept u w'))
    (HCP : Hid (∀ u, Kept w u → Calls Tryz.prog 60 #[.agg #[.slice oa n cap, .int .i64 c, .slice oo m co]] u (CopyPost s u)))
    (HDO : Hid (∀ u V c b, Kept w u → stErrS p c = 0 → c.now ≠ -1 → Own b u V c → Calls Tryz.prog 61 #[vp, .agg #[V .fibers, .int .i64 c.now, V .out]] u (DoPost (doneS p c) u))) :
    Calls Tryz.prog 30 #[vp, .agg #[.slice oa n cap, .int .i64 c, .slice oo m co], .int .i64 fuel] w (RnPost RR w) := by
  have hin : inB (fuel : Int) 0 500 = true := inB_true (by omega) (by omega)
  go_enter Tryz.func30, Tryz.ntmps30
  go_wp2_with (go_at_call 28; refine (isFuel_any _ _).mono ?_; rw [hin]; rintro e w' ⟨rfl, rfl⟩; refine unhide ?_)
  refine hide ?_
  generalize hw2 : ((w.alloc (.cells #[.slice oa n cap, .int .i64 c, .slice oo m co] 44)).alloc (.cells #[.slice none 0 0, .int .i64 0, .slice none 0 0] 44)) = w2
  have hk2 : Kept w w2 := by rw [← hw2]; exact ((Kept.refl w).alloc _).alloc _
  have hz2 : w2.heap.size = w.heap.size + 2 := by rw [← hw2]; simp
  have lX : w2.heap[w.heap.size]? = some (.cells #[.slice oa n cap, .int .i64 c, .slice oo m co] 44) := by rw [← hw2]; exact lays_alloc (lays_new rfl) _
  have lR : w2.heap[w.heap.size + 1]? = some (.cells #[.slice none 0 0, .int .i64 0, .slice none 0 0] 44) := by rw [← hw2]; exact lays_new (by simp)
  clear hw2
  have x0 : w2.cell? ⟨w.heap.size, 0, none⟩ = some (.slice oa n cap) := cell_lays lX 0
  have x1 : w2.cell? ⟨w.heap.size, 1, none⟩ = some (.int .i64 c) := cell_lays lX 1
  have x2 : w2.cell? ⟨w.heap.size, 2, none⟩ = some (.slice oo m co) := cell_lays lX 2
  go_wp2_with fail
  refine ((unhide HCK) w2 hk2).mono ?_
  rintro e w3 ⟨rfl, hk3⟩
  have lX3 := lays_kept hk3 lX
  have lR3 := lays_kept hk3 lR
  have hz3 : w.heap.size + 2 ≤ w3.heap.size := by have := hk3.size; omega
  clear x0 x1 x2
  have x0 : w3.cell? ⟨w.heap.size, 0, none⟩ = some (.slice oa n cap) := cell_lays lX3 0
  have x1 : w3.cell? ⟨w.heap.size, 1, none⟩ = some (.int .i64 c) := cell_lays lX3 1
  have x2 : w3.cell? ⟨w.heap.size, 2, none⟩ = some (.slice oo m co) := cell_lays lX3 2
  have HK3 := hide (hk2.trans hk3)
  have HX3 := hide lX3
  have HR3 := hide lR3
  have HZ3 := hide hz3
  clear hk2 hk3 hz2 hz3 lX lR lX3 lR3 HCK hin
  go_wp2_with fail
  refine ((unhide HCP) w3 (unhide HK3)).mono ?_
  rintro e w4 ⟨V, rfl, ho4, hk4⟩
  obtain ⟨xs, hr, _⟩ := ho4.piece .fibers trivial
  obtain ⟨o1, c1, e1, _⟩ := row_slice hr
  have hr2 := ho4.piece .out trivial
  obtain ⟨o2, c2, e2, _⟩ := row_slice hr2
  have lX4 := lays_kept hk4 (unhide HX3)
  have lR4 := lays_kept hk4 (unhide HR3)
  clear x0 x1 x2
  have x0 : w4.cell? ⟨w.heap.size, 0, none⟩ = some (.slice oa n cap) := cell_lays lX4 0
  have x1 : w4.cell? ⟨w.heap.size, 1, none⟩ = some (.int .i64 c) := cell_lays lX4 1
  have x2 : w4.cell? ⟨w.heap.size, 2, none⟩ = some (.slice oo m co) := cell_lays lX4 2
  have f0 := frozen_lays lX4 0
  have f1 := frozen_lays lX4 1
  have f2 := frozen_lays lX4 2
  have hk5 : Kept w (((w4.setCell ⟨w.heap.size, 0, none⟩ (V .fibers)).setCell ⟨w.heap.size, 1, none⟩ (.int .i64 s.now)).setCell ⟨w.heap.size, 2, none⟩ (V .out)) := ((((unhide HK3).trans hk4).setCell (p := ⟨w.heap.size, 0, none⟩) (Nat.le_refl _) _).setCell (p := ⟨w.heap.size, 1, none⟩) (Nat.le_refl _) _).setCell (p := ⟨w.heap.size, 2, none⟩) (Nat.le_refl _) _
  have l5 := lays3 (x := V .fibers) (y := .int .i64 s.now) (z := V .out) lX4
  have hoth : ∀ b, b ≠ w.heap.size → (((w4.setCell ⟨w.heap.size, 0, none⟩ (V .fibers)).setCell ⟨w.heap.size, 1, none⟩ (.int .i64 s.now)).setCell ⟨w.heap.size, 2, none⟩ (V .out)).heap[b]? = w4.heap[b]? := fun b hb => by
    rw [Below.heap_setCell _ _ _ _ hb, Below.heap_setCell _ _ _ _ hb, Below.heap_setCell _ _ _ _ hb]
  have hlow := ho4.low (unhide HZ3)
  have ho5 : Own (w.heap.size + 2) (((w4.setCell ⟨w.heap.size, 0, none⟩ (V .fibers)).setCell ⟨w.heap.size, 1, none⟩ (.int .i64 s.now)).setCell ⟨w.heap.size, 2, none⟩ (V .out)) V s := hlow.same (fun k g hk hg => hoth g (by have := ((hlow.piece k hk).block g hg).1; omega))
  have lR5 := (hoth (w.heap.size + 1) (by omega)).trans lR4
  have HK5 := hide hk5
  have HL5 := hide l5
  have HO5 := hide ho5
  have HR5 := hide lR5
  rw [e1, e2, hsn] at HK5 HL5 HO5 HR5 ⊢
  have HE1 := hide e1
  have HE2 := hide e2
  clear hk5 l5 ho5 lR5 hoth hlow ho4 hk4 hr hr2 e1 e2 lX4 lR4 HCP HX3 HR3 HZ3 HK3
  generalize s.fibers.length = N at *
  generalize s.out.length = M at *
  go_wp2_with fail
  go_loopw [10] (fun s10 wr => ∃ (k : Nat) (c : St) (V : Key → Value), k ≤ fuel ∧ s10 = .int .i64 k ∧ Hid (wr.heap[w.heap.size]? = some (.cells #[V .fibers, .int .i64 c.now, V .out] 44)) ∧ Hid (Own (w.heap.size + 2) wr V c) ∧ Hid (stErrS p c = 0) ∧ Hid (RR = ((runS p (fuel - k) c).1, (runS p (fuel - k) c).2.1 + k, (runS p (fuel - k) c).2.2)) ∧ Hid (wr.heap[w.heap.size + 1]? = some (.cells #[.slice none 0 0, .int .i64 0, .slice none 0 0] 44)) ∧ Hid (Kept w wr)) (fun s10 _ => fuel - (intOf s10).toNat)
  case atStart => exact ⟨0, s, V, Nat.zero_le _, rfl, hide (by rw [unhide HE1, unhide HE2, hsn]; exact unhide HL5), HO5, HS0, hide (by rw [unhide HRR]; rfl), HR5, HK5⟩
  case round =>
    obtain ⟨k, c, Vc, hkf, rfl, HA, HOc, HRc, HREL, HLR, HKc⟩ := hrel
    clear HL5 HO5 HR5 HK5 HE1 HE2 x0 x1 x2 f0 f1 f2
    obtain ⟨xsF, hrF, _⟩ := (unhide HOc).piece .fibers trivial
    obtain ⟨oX, cX, hVf, _⟩ := row_slice hrF
    have hrO := (unhide HOc).piece .out trivial
    obtain ⟨oY, cY, hVo, _⟩ := row_slice hrO
    have LAc := unhide HA
    rw [hVf, hVo] at LAc
    have LRc := unhide HLR
    have HLAc := hide LAc
    have d0 := cell_lays LAc 0
    have d1 := cell_lays LAc 1
    have d2 := cell_lays LAc 2
    have e0 := frozen_lays LAc 0
    have e1 := frozen_lays LAc 1
    have e2 := frozen_lays LAc 2
    have q0 := cell_lays LRc 0
    have q1 := cell_lays LRc 1
    have q2 := cell_lays LRc 2
    have g0 := frozen_lays LRc 0
    have g1 := frozen_lays LRc 1
    have g2 := frozen_lays LRc 2
    have HVF := hide hVf
    have HVO := hide hVo
    clear hrF hrO hVf hVo LAc LRc
    have HNE := hide (fun (h : stErrS p c = 0) => (limS_zero (right_parts h).2.1).2.2.2.2.1)
    generalize c.fibers.length = NX at *
    generalize c.out.length = MY at *
    by_cases hlt : k < fuel
    · have hn1 : (k : Int) < (fuel : Int) := by omega
      by_cases hneg : c.now = -1
      · have HQ : Hid (RR = (c, k, 0)) := hide (by rw [unhide HREL, runS_stop p _ c (.inr (by omega)), Nat.zero_add])
        have HNO := hide hneg
        rw [hneg] at d1
        clear HREL hneg
        go_wp2
        have l6 := lays3 (x := .slice oX NX cX) (y := .int .i64 (-1)) (z := .slice oY MY cY) (unhide HLR)
        have hoff : Own.off Vc c (w.heap.size + 1) := (unhide HOc).new_off (.inr (Nat.lt_succ_self _))
        have t6 := (((unhide HOc).setOff (a := ⟨w.heap.size + 1, 0, none⟩) hoff (.slice oX NX cX)).setOff (a := ⟨w.heap.size + 1, 1, none⟩) hoff (.int .i64 (-1))).setOff (a := ⟨w.heap.size + 1, 2, none⟩) hoff (.slice oY MY cY)
        have hk6 := (((unhide HKc).setCell (p := ⟨w.heap.size + 1, 0, none⟩) (Nat.le_succ _) (.slice oX NX cX)).setCell (p := ⟨w.heap.size + 1, 1, none⟩) (Nat.le_succ _) (.int .i64 (-1))).setCell (p := ⟨w.heap.size + 1, 2, none⟩) (Nat.le_succ _) (.slice oY MY cY)
        generalize (((wr.setCell ⟨w.heap.size + 1, 0, none⟩ (.slice oX NX cX)).setCell ⟨w.heap.size + 1, 1, none⟩ (.int .i64 (-1))).setCell ⟨w.heap.size + 1, 2, none⟩ (.slice oY MY cY)) = w6 at *
        have z0 : w6.cell? ⟨w.heap.size + 1, 0, none⟩ = some (.slice oX NX cX) := cell_lays l6 0
        have z1 : w6.cell? ⟨w.heap.size + 1, 1, none⟩ = some (.int .i64 (-1)) := cell_lays l6 1
        have z2 : w6.cell? ⟨w.heap.size + 1, 2, none⟩ = some (.slice oY MY cY) := cell_lays l6 2
        refine bodyPost_ret (v := .tuple #[.agg #[.slice oX NX cX, .int .i64 (-1), .slice oY MY cY], .int .i64 k, .int .i64 0]) (by simp [results, Tryz.results30, go_sem, z0, z1, z2]) rfl ?_
        exact ⟨Vc, by rw [unhide HQ, unhide HVF, unhide HVO, unhide HNO], by rw [unhide HQ]; exact t6.low (by omega), hk6⟩
      · have hnn0 : 0 ≤ c.now := by have := (unhide HNE) (unhide HRc); omega
        have hd := (unhide HDO) wr Vc c _ (unhide HKc) (unhide HRc) hneg (unhide HOc)
        rw [unhide HVF, unhide HVO] at hd
        have HD := hide hd
        have hrs := right_step (unhide HRc) hnn0
        have hfk : fuel - k = (fuel - (k + 1)) + 1 := by omega
        have HCO : Hid ((doneS p c).2 = 0 → RR = ((runS p (fuel - (k + 1)) (doneS p c).1).1, (runS p (fuel - (k + 1)) (doneS p c).1).2.1 + (k + 1), (runS p (fuel - (k + 1)) (doneS p c).1).2.2)) := hide (fun h => by
          rw [unhide HREL, hfk, runS_go p _ c (by omega) h]
          simp only [Prod.mk.injEq, true_and, and_true]; omega)
        have HST : Hid ((doneS p c).2 ≠ 0 → RR = (c, k, (doneS p c).2)) := hide (fun h => by
          rw [unhide HREL, hfk, runS_err p _ c (by omega) h, Nat.zero_add])
        have HRI : Hid ((doneS p c).2 = 0 → stErrS p (doneS p c).1 = 0) := hide (fun h => by
          rcases hrs with ⟨_, h2⟩ | ⟨_, h2⟩
          · exact h2
          · exfalso; omega)
        clear hd hrs hfk HREL HNE
        generalize doneS p c = r at *
        generalize hnn : c.now = nn at *
        have HNO := hide hnn
        clear hnn
        go_wp2_with fail
        refine (unhide HD).mono ?_
        rintro e w5 ⟨V5, rfl, ho5, hk5⟩
        obtain ⟨xs5, hr5, _⟩ := ho5.piece .fibers trivial
        obtain ⟨o5, c5, E5, _⟩ := row_slice hr5
        have hr6 := ho5.piece .out trivial
        obtain ⟨o6, c6, E6, _⟩ := row_slice hr6
        have lA5 := lays_kept hk5 (unhide HLAc)
        have lR5 := lays_kept hk5 (unhide HLR)
        have hOc5 := (unhide HOc).same (w' := w5) (fun kk g hkk hg => hk5.block g (((unhide HOc).piece kk hkk).block g hg).2)
        have hK5 := (unhide HKc).trans hk5
        have hwz : w.heap.size + 2 ≤ wr.heap.size := by have := (Array.getElem?_eq_some_iff.1 (unhide HLR)).1; omega
        have hHA := hk5.size
        clear HD d0 d1 d2 e0 e1 e2 q0 q1 q2 g0 g1 g2
        rw [E5, E6]
        have HE5 := hide E5
        have HE6 := hide E6
        clear E5 E6 hr5 hr6
        generalize r.1.fibers.length = N5 at *
        generalize r.1.out.length = M5 at *
        generalize hrn : r.1.now = rn at *
        generalize hre : r.2 = re at *
        have HRN := hide (And.intro hrn hre)
        clear hrn
        have lA7 := lays_alloc lA5 (.cells #[.slice o5 N5 c5, .int .i64 rn, .slice o6 M5 c6] 44)
        have lR7 := lays_alloc lR5 (.cells #[.slice o5 N5 c5, .int .i64 rn, .slice o6 M5 c6] 44)
        have a0 := cell_lays lA7 0
        have a1 := cell_lays lA7 1
        have a2 := cell_lays lA7 2
        have b0 := frozen_lays lA7 0
        have b1 := frozen_lays lA7 1
        have b2 := frozen_lays lA7 2
        have q0 := cell_lays lR7 0
        have q1 := cell_lays lR7 1
        have q2 := cell_lays lR7 2
        have g0 := frozen_lays lR7 0
        have g1 := frozen_lays lR7 1
        have g2 := frozen_lays lR7 2
        have HA7 := hide lA7
        have HR7 := hide lR7
        have HK7 := hide (hK5.alloc (.cells #[.slice o5 N5 c5, .int .i64 rn, .slice o6 M5 c6] 44))
        have HO7 := hide (hOc5.alloc (.cells #[.slice o5 N5 c5, .int .i64 rn, .slice o6 M5 c6] 44))
        have HP7 := hide ((ho5.low hwz).alloc (.cells #[.slice o5 N5 c5, .int .i64 rn, .slice o6 M5 c6] 44))
        clear lA7 lR7 lA5 lR5 hK5 hOc5 ho5 hk5 hwz hHA
        by_cases hre0 : re = 0
        · have hrr := (unhide HRI) hre0
          have hco := (unhide HCO) hre0
          have HRR2 := hide hrr
          have HCO2 := hide hco
          subst hre0
          clear hrr hco HRI HCO HST hre
          go_wp2
          go_roundw
          case rel =>
            have hoth : ∀ b, b ≠ w.heap.size → ((((w5.alloc (.cells #[.slice o5 N5 c5, .int .i64 rn, .slice o6 M5 c6] 44)).setCell ⟨w.heap.size, 0, none⟩ (.slice o5 N5 c5)).setCell ⟨w.heap.size, 1, none⟩ (.int .i64 rn)).setCell ⟨w.heap.size, 2, none⟩ (.slice o6 M5 c6)).heap[b]? = (w5.alloc (.cells #[.slice o5 N5 c5, .int .i64 rn, .slice o6 M5 c6] 44)).heap[b]? := fun b hb => by
              rw [Below.heap_setCell _ _ _ _ hb, Below.heap_setCell _ _ _ _ hb, Below.heap_setCell _ _ _ _ hb]
            refine ⟨k + 1, r.1, V5, by omega, by go_num, hide ?_, hide ((unhide HP7).same (fun kk g hkk hg => hoth g (by have := (((unhide HP7).piece kk hkk).block g hg).1; omega))), HRR2, HCO2, hide ((hoth (w.heap.size + 1) (by omega)).trans (unhide HR7)), hide ((((unhide HK7).setCell (p := ⟨w.heap.size, 0, none⟩) (Nat.le_refl _) _).setCell (p := ⟨w.heap.size, 1, none⟩) (Nat.le_refl _) _).setCell (p := ⟨w.heap.size, 2, none⟩) (Nat.le_refl _) _)⟩
            rw [unhide HE5, unhide HE6, (unhide HRN).1]
            exact lays3 (unhide HA7)
          case measure => simp [intOf]; omega
        · have HQ : Hid (RR = (c, k, re)) := hide ((unhide HST) hre0)
          clear HRI HCO HST hre HRN
          go_wp2
          have l6 := lays3 (x := .slice oX NX cX) (y := .int .i64 nn) (z := .slice oY MY cY) (unhide HR7)
          have hoff : Own.off Vc c (w.heap.size + 1) := (unhide HO7).new_off (.inr (Nat.lt_succ_self _))
          have t6 := (((unhide HO7).setOff (a := ⟨w.heap.size + 1, 0, none⟩) hoff (.slice oX NX cX)).setOff (a := ⟨w.heap.size + 1, 1, none⟩) hoff (.int .i64 nn)).setOff (a := ⟨w.heap.size + 1, 2, none⟩) hoff (.slice oY MY cY)
          have hk6 := (((unhide HK7).setCell (p := ⟨w.heap.size + 1, 0, none⟩) (Nat.le_succ _) (.slice oX NX cX)).setCell (p := ⟨w.heap.size + 1, 1, none⟩) (Nat.le_succ _) (.int .i64 nn)).setCell (p := ⟨w.heap.size + 1, 2, none⟩) (Nat.le_succ _) (.slice oY MY cY)
          generalize ((((w5.alloc (.cells #[.slice o5 N5 c5, .int .i64 rn, .slice o6 M5 c6] 44)).setCell ⟨w.heap.size + 1, 0, none⟩ (.slice oX NX cX)).setCell ⟨w.heap.size + 1, 1, none⟩ (.int .i64 nn)).setCell ⟨w.heap.size + 1, 2, none⟩ (.slice oY MY cY)) = w6 at *
          have z0 : w6.cell? ⟨w.heap.size + 1, 0, none⟩ = some (.slice oX NX cX) := cell_lays l6 0
          have z1 : w6.cell? ⟨w.heap.size + 1, 1, none⟩ = some (.int .i64 nn) := cell_lays l6 1
          have z2 : w6.cell? ⟨w.heap.size + 1, 2, none⟩ = some (.slice oY MY cY) := cell_lays l6 2
          refine bodyPost_ret (v := .tuple #[.agg #[.slice oX NX cX, .int .i64 nn, .slice oY MY cY], .int .i64 k, .int .i64 re]) (by simp [results, Tryz.results30, go_sem, z0, z1, z2]) rfl ?_
          exact ⟨Vc, by rw [unhide HQ, unhide HVF, unhide HVO, unhide HNO], by rw [unhide HQ]; exact t6.low (by omega), hk6⟩
    · have hke : k = fuel := by omega
      have hn1 : ¬ (k : Int) < (fuel : Int) := by omega
      have HQ : Hid (RR = (c, k, 0)) := hide (by rw [unhide HREL, runS_stop p _ c (.inl (by omega)), Nat.zero_add])
      clear HREL hke
      generalize hnn : c.now = nn at *
      have HNO := hide hnn
      go_wp2
      have l6 := lays3 (x := .slice oX NX cX) (y := .int .i64 nn) (z := .slice oY MY cY) (unhide HLR)
      have hoff : Own.off Vc c (w.heap.size + 1) := (unhide HOc).new_off (.inr (Nat.lt_succ_self _))
      have t6 := (((unhide HOc).setOff (a := ⟨w.heap.size + 1, 0, none⟩) hoff (.slice oX NX cX)).setOff (a := ⟨w.heap.size + 1, 1, none⟩) hoff (.int .i64 nn)).setOff (a := ⟨w.heap.size + 1, 2, none⟩) hoff (.slice oY MY cY)
      have hk6 := (((unhide HKc).setCell (p := ⟨w.heap.size + 1, 0, none⟩) (Nat.le_succ _) (.slice oX NX cX)).setCell (p := ⟨w.heap.size + 1, 1, none⟩) (Nat.le_succ _) (.int .i64 nn)).setCell (p := ⟨w.heap.size + 1, 2, none⟩) (Nat.le_succ _) (.slice oY MY cY)
      generalize (((wr.setCell ⟨w.heap.size + 1, 0, none⟩ (.slice oX NX cX)).setCell ⟨w.heap.size + 1, 1, none⟩ (.int .i64 nn)).setCell ⟨w.heap.size + 1, 2, none⟩ (.slice oY MY cY)) = w6 at *
      have z0 : w6.cell? ⟨w.heap.size + 1, 0, none⟩ = some (.slice oX NX cX) := cell_lays l6 0
      have z1 : w6.cell? ⟨w.heap.size + 1, 1, none⟩ = some (.int .i64 nn) := cell_lays l6 1
      have z2 : w6.cell? ⟨w.heap.size + 1, 2, none⟩ = some (.slice oY MY cY) := cell_lays l6 2
      refine bodyPost_ret (v := .tuple #[.agg #[.slice oX NX cX, .int .i64 nn, .slice oY MY cY], .int .i64 k, .int .i64 0]) (by simp [results, Tryz.results30, go_sem, z0, z1, z2]) rfl ?_
      exact ⟨Vc, by rw [unhide HQ, unhide HVF, unhide HVO, unhide HNO], by rw [unhide HQ]; exact t6.low (by omega), hk6⟩
def rnS (p : List Fn) (s : St) (fuel : Int) : St × Nat × Int :=
  if inB fuel 0 500 = true then if stErrS p s = 0 then runS p fuel.toNat s else (St.zero, 0, stErrS p s) else (St.zero, 0, 3)
theorem runRun_any (p : List Fn) (s : St) (vp vs : Value) (fuel : Int) (w : World) (hp : ProgAt w vp p) (hs : StAt w vs s) (hkd : KindsAt w) :
    Calls Tryz.prog 30 #[vp, vs, .int .i64 fuel] w (RnPost (rnS p s fuel) w) := by
  have HCK : ∀ u, Kept w u → Calls Tryz.prog 59 #[vp, vs] u fun e w' => e = .returned (.int .i64 (stErrS p s)) ∧ Kept u w' := fun u hu => stCheck_any p s vp vs u (hp.kept hu) (hs.kept hu) (hkd.kept hu)
  have HCP : stErrS p s = 0 → ∀ u, Kept w u → Calls Tryz.prog 60 #[vs] u (CopyPost s u) := fun h0 u hu => ownState_copy s vs u (hs.kept hu) (right_small h0).short
  obtain ⟨vf, vo, rfl, ⟨oa, cap, rfl, _, _⟩, ⟨oo, co, rfl, _, _⟩⟩ := hs
  unfold rnS
  by_cases hin : inB fuel 0 500 = true
  · rw [if_pos hin]
    by_cases h0 : stErrS p s = 0
    · rw [if_pos h0]
      obtain ⟨h1, h2⟩ := inB_iff.1 hin
      obtain ⟨k, rfl⟩ : ∃ k : Nat, fuel = k := ⟨fuel.toNat, by omega⟩
      rw [h0] at HCK
      rw [Int.toNat_natCast]
      refine run_walk p s _ oa oo _ _ cap co s.now vp k w (by omega) rfl (hide h0) (hide rfl) (hide HCK) (hide (HCP h0)) (hide (fun u V c b hu hc hn ho => ?_))
      have hst : stpS p c = doneS p c := by
        have := (limS_zero (right_parts hc).2.1).2.2.2.2.1
        unfold stpS oneS
        rw [if_pos hc, if_neg (by omega)]
      rw [← hst]
      exact stepDo_any p c vp _ u (hp.kept hu) (ho.reads (right_small hc)) (hkd.kept hu)
    · rw [if_neg h0]
      exact run_bad oa oo _ _ cap co s.now vp fuel w _ h0 hin (hide HCK)
  · rw [if_neg hin]
    exact run_far oa oo _ _ cap co s.now vp fuel w (by simpa using hin)
def sliceLen : Value → Nat | .slice _ n _ => n | _ => 0
end Go.Proofs.YtokhibfenccijaaGreatDoor
