/- StateR -/
import Derived.Test.YtlapliclhfpgkaaDoorRB31
import Derived.Deep.RegionHeld2
namespace Go.Proofs.YtlapliclhfpgkaaDoor
open Go.RowKit
theorem cell_at {w : World} {b : Nat} {c : Array Value} {t : TypeId} {fr : Nat × Nat} (h : w.heap[b]? = some (.cells c t fr)) {i : Nat} {v : Value} (hv : c[i]? = some v) : w.cell? ⟨b, i, none⟩ = some v := (cell_lays h i).trans hv
theorem viaK {K : Act → World → Prop} {R : Act → World → Prop} {S : World → Prop} (_ : Shut (∀ a w, S w → (S w → R a w) → K a w)) (hF : False) (a : Act) (w : World) {G : Prop} (_ : K a w) : G := hF.elim
set_option maxHeartbeats 8000000 in
set_option maxRecDepth 100000 in
theorem askWaiting_bad (n cap i ns cs b o : Nat) (vF vO vh vl : Value) (os : Option Addr) (now at_ h k1 a1 : Int) (w : World) (hb : -1000 ≤ h ∧ h ≤ 1000) (_hns : ns ≤ 17592186043904)
    (hh : ∀ u, Kept w u → Calls Tryd.prog 56 #[.agg #[vF, .int .i64 now, vO, .slice (some ⟨b, o, none⟩) n cap, vh], .agg #[.int .i64 i, .int .i64 at_, vl, .slice os ns cs]] u fun e u' => e = .returned (.int .i64 h) ∧ Kept u u')
    (hno : ¬ (0 < at_ ∧ (ns : Int) = h - 1)) :
    Calls Tryd.prog 58 #[.agg #[vF, .int .i64 now, vO, .slice (some ⟨b, o, none⟩) n cap, vh], .agg #[.int .i64 i, .int .i64 at_, vl, .slice os ns cs], .agg #[.int .i64 k1, .int .i64 a1]] w fun e w' => e = left 1 ∧ Kept w w' := by
  obtain ⟨hb1, hb2⟩ := hb
  have hwr : IntKind.i64.wrap (h - 1) = h - 1 := wrap_tiny _ (by omega) (by omega)
  have HHH := hide hh
  clear hh
  go_enter Tryd.func58, Tryd.ntmps58
  go_wp2
  generalize hw0 : ((w.alloc (.cells #[vF, .int .i64 now, vO, .slice (some ⟨b, o, none⟩) n cap, vh] 74)).alloc (.cells #[.int .i64 i, .int .i64 at_, vl, .slice os ns cs] 64)).alloc (.cells #[.int .i64 k1, .int .i64 a1] 54) = w0 at *
  have hk0 : Kept w w0 := by rw [← hw0]; exact (((Kept.refl w).alloc _).alloc _).alloc _
  generalize hB0 : w.heap.size = B0 at *
  generalize hB1 : B0 + 1 = B1 at *
  have HY : Hid (∀ u, Kept w0 u → u.cell? ⟨B0, 0, none⟩ = some vF ∧ u.cell? ⟨B0, 1, none⟩ = some (.int .i64 now) ∧ u.cell? ⟨B0, 2, none⟩ = some vO ∧ u.cell? ⟨B0, 3, none⟩ = some (.slice (some ⟨b, o, none⟩) n cap) ∧ u.cell? ⟨B0, 4, none⟩ = some vh ∧ u.cell? ⟨B1, 0, none⟩ = some (.int .i64 i) ∧ u.cell? ⟨B1, 1, none⟩ = some (.int .i64 at_) ∧ u.cell? ⟨B1, 2, none⟩ = some vl ∧ u.cell? ⟨B1, 3, none⟩ = some (.slice os ns cs)) := by
    have q : w0.cell? ⟨B0, 0, none⟩ = some vF ∧ w0.cell? ⟨B0, 1, none⟩ = some (.int .i64 now) ∧ w0.cell? ⟨B0, 2, none⟩ = some vO ∧ w0.cell? ⟨B0, 3, none⟩ = some (.slice (some ⟨b, o, none⟩) n cap) ∧ w0.cell? ⟨B0, 4, none⟩ = some vh ∧ w0.cell? ⟨B1, 0, none⟩ = some (.int .i64 i) ∧ w0.cell? ⟨B1, 1, none⟩ = some (.int .i64 at_) ∧ w0.cell? ⟨B1, 2, none⟩ = some vl ∧ w0.cell? ⟨B1, 3, none⟩ = some (.slice os ns cs) := by
      have L0 : w0.heap[B0]? = some (.cells #[vF, .int .i64 now, vO, .slice (some ⟨b, o, none⟩) n cap, vh] 74) := by
        rw [← hw0]; exact lays_alloc (lays_alloc (lays_new hB0) _) _
      have L1 : w0.heap[B1]? = some (.cells #[.int .i64 i, .int .i64 at_, vl, .slice os ns cs] 64) := by
        rw [← hw0]; exact lays_alloc (lays_new (by simp [hB0, hB1])) _
      exact ⟨cell_at L0 rfl, cell_at L0 rfl, cell_at L0 rfl, cell_at L0 rfl, cell_at L0 rfl, cell_at L1 rfl, cell_at L1 rfl, cell_at L1 rfl, cell_at L1 rfl⟩
    obtain ⟨q0, q1, q2, q3, q4, q5, q6, q7, q8⟩ := q
    exact hide (fun u hu => ⟨hu.cell q0, hu.cell q1, hu.cell q2, hu.cell q3, hu.cell q4, hu.cell q5, hu.cell q6, hu.cell q7, hu.cell q8⟩)
  have HH := hide (show ∀ u, Kept w0 u → _ from fun u hu => (unhide HHH) u (hk0.trans hu))
  have HK0 := hide hk0
  clear hw0 hk0 HHH hB0 hB1
  by_cases h1 : 0 < at_
  · have h2 : ¬ (ns : Int) = h - 1 := fun e => hno ⟨h1, e⟩
    have hb : ((ns : Int) == h - 1) = false := by rw [beq_eq_false_iff_ne]; exact h2
    have hd : decide (0 < at_) = true := decide_eq_true h1
    clear hno h2
    go_region_held2 (fun u => u.cell? ⟨B0, 0, none⟩ = some vF ∧ u.cell? ⟨B0, 1, none⟩ = some (.int .i64 now) ∧ u.cell? ⟨B0, 2, none⟩ = some vO ∧ u.cell? ⟨B0, 3, none⟩ = some (.slice (some ⟨b, o, none⟩) n cap) ∧ u.cell? ⟨B0, 4, none⟩ = some vh ∧ u.cell? ⟨B1, 0, none⟩ = some (.int .i64 i) ∧ u.cell? ⟨B1, 1, none⟩ = some (.int .i64 at_) ∧ u.cell? ⟨B1, 2, none⟩ = some vl ∧ u.cell? ⟨B1, 3, none⟩ = some (.slice os ns cs))
      (first | exact hF.elim | exact (unhide HY) _ (Kept.trans (Kept.trans (by repeat (first | exact Kept.refl _ | refine Kept.drew ?_ | refine Kept.alloc ?_ _)) hkA) (by repeat (first | exact Kept.refl _ | refine Kept.drew ?_ | refine Kept.alloc ?_ _))) | exact (unhide HY) _ (by repeat (first | exact Kept.refl _ | refine Kept.drew ?_ | refine Kept.alloc ?_ _)))
      (first | (go_at_call 56; refine ((unhide HH) _ (by repeat (first | exact Kept.refl _ | refine Kept.drew ?_ | refine Kept.alloc ?_ _))).mono ?_; rintro e wA ⟨rfl, hkA⟩) | (go_at_call 53; refine (ask2_no' _ _ _ true _ (by simp) (by simp)).mono ?_; rintro e wC ⟨rfl, rfl⟩; dsimp only [left]; refine (Classical.em False).elim (fun hF => ?_) (fun _ => ⟨rfl, rfl, Kept.trans (unhide HK0) (Kept.trans (Kept.trans (by repeat (first | exact Kept.refl _ | refine Kept.drew ?_ | refine Kept.alloc ?_ _)) hkA) (by repeat (first | exact Kept.refl _ | refine Kept.drew ?_ | refine Kept.alloc ?_ _)))⟩); refine viaK ‹Shut _› hF ⟨#[], []⟩ w0 ?_))
    all_goals exact hF.elim
  · have hd : decide (0 < at_) = false := decide_eq_false h1
    clear hno h1
    by_cases h2 : (ns : Int) = h - 1
    · have hb : ((ns : Int) == h - 1) = true := by rw [beq_iff_eq]; exact h2
      clear h2
      go_region_held2 (fun u => u.cell? ⟨B0, 0, none⟩ = some vF ∧ u.cell? ⟨B0, 1, none⟩ = some (.int .i64 now) ∧ u.cell? ⟨B0, 2, none⟩ = some vO ∧ u.cell? ⟨B0, 3, none⟩ = some (.slice (some ⟨b, o, none⟩) n cap) ∧ u.cell? ⟨B0, 4, none⟩ = some vh ∧ u.cell? ⟨B1, 0, none⟩ = some (.int .i64 i) ∧ u.cell? ⟨B1, 1, none⟩ = some (.int .i64 at_) ∧ u.cell? ⟨B1, 2, none⟩ = some vl ∧ u.cell? ⟨B1, 3, none⟩ = some (.slice os ns cs))
        (first | exact hF.elim | exact (unhide HY) _ (Kept.trans (Kept.trans (by repeat (first | exact Kept.refl _ | refine Kept.drew ?_ | refine Kept.alloc ?_ _)) hkA) (by repeat (first | exact Kept.refl _ | refine Kept.drew ?_ | refine Kept.alloc ?_ _))) | exact (unhide HY) _ (by repeat (first | exact Kept.refl _ | refine Kept.drew ?_ | refine Kept.alloc ?_ _)))
        (first | (go_at_call 56; refine ((unhide HH) _ (by repeat (first | exact Kept.refl _ | refine Kept.drew ?_ | refine Kept.alloc ?_ _))).mono ?_; rintro e wA ⟨rfl, hkA⟩) | (go_at_call 53; refine (ask2_no _ _ _ true _ (by simp) (by simp)).mono ?_; rintro e wC ⟨rfl, rfl⟩; dsimp only [left]; refine (Classical.em False).elim (fun hF => ?_) (fun _ => ⟨rfl, rfl, Kept.trans (unhide HK0) (Kept.trans (Kept.trans (by repeat (first | exact Kept.refl _ | refine Kept.drew ?_ | refine Kept.alloc ?_ _)) hkA) (by repeat (first | exact Kept.refl _ | refine Kept.drew ?_ | refine Kept.alloc ?_ _)))⟩); refine viaK ‹Shut _› hF ⟨#[], []⟩ w0 ?_))
      all_goals exact hF.elim
    · have hb : ((ns : Int) == h - 1) = false := by rw [beq_eq_false_iff_ne]; exact h2
      clear h2
      go_region_held2 (fun u => u.cell? ⟨B0, 0, none⟩ = some vF ∧ u.cell? ⟨B0, 1, none⟩ = some (.int .i64 now) ∧ u.cell? ⟨B0, 2, none⟩ = some vO ∧ u.cell? ⟨B0, 3, none⟩ = some (.slice (some ⟨b, o, none⟩) n cap) ∧ u.cell? ⟨B0, 4, none⟩ = some vh ∧ u.cell? ⟨B1, 0, none⟩ = some (.int .i64 i) ∧ u.cell? ⟨B1, 1, none⟩ = some (.int .i64 at_) ∧ u.cell? ⟨B1, 2, none⟩ = some vl ∧ u.cell? ⟨B1, 3, none⟩ = some (.slice os ns cs))
        (first | exact hF.elim | exact (unhide HY) _ (Kept.trans (Kept.trans (by repeat (first | exact Kept.refl _ | refine Kept.drew ?_ | refine Kept.alloc ?_ _)) hkA) (by repeat (first | exact Kept.refl _ | refine Kept.drew ?_ | refine Kept.alloc ?_ _))) | exact (unhide HY) _ (by repeat (first | exact Kept.refl _ | refine Kept.drew ?_ | refine Kept.alloc ?_ _)))
        (first | (go_at_call 56; refine ((unhide HH) _ (by repeat (first | exact Kept.refl _ | refine Kept.drew ?_ | refine Kept.alloc ?_ _))).mono ?_; rintro e wA ⟨rfl, hkA⟩) | (go_at_call 53; refine (ask2_no _ _ _ false _ (by simp) (by simp)).mono ?_; rintro e wC ⟨rfl, rfl⟩; dsimp only [left]; refine (Classical.em False).elim (fun hF => ?_) (fun _ => ⟨rfl, rfl, Kept.trans (unhide HK0) (Kept.trans (Kept.trans (by repeat (first | exact Kept.refl _ | refine Kept.drew ?_ | refine Kept.alloc ?_ _)) hkA) (by repeat (first | exact Kept.refl _ | refine Kept.drew ?_ | refine Kept.alloc ?_ _)))⟩); refine viaK ‹Shut _› hF ⟨#[], []⟩ w0 ?_))
      all_goals exact hF.elim
set_option maxHeartbeats 8000000 in
set_option maxRecDepth 100000 in
theorem askWaiting_good (n cap i ns cs b o bc co m cc a : Nat) (vF vO vh vl : Value) (os : Option Addr) (now h k1 a1 : Int) (x : Int × Int) (w : World) (hb : -1000 ≤ h ∧ h ≤ 1000) (_hns : ns ≤ 17592186043904)
    (hh : ∀ u, Kept w u → Calls Tryd.prog 56 #[.agg #[vF, .int .i64 now, vO, .slice (some ⟨b, o, none⟩) n cap, vh], .agg #[.int .i64 i, .int .i64 ((a : Int) + 1), vl, .slice os ns cs]] u fun e u' => e = .returned (.int .i64 h) ∧ Kept u u')
    (hi : i < n) (ha : a + 1 < m) (hm : m ≤ 8796093022208) (hz : (ns : Int) = h - 1) (c2 : w.cell? ⟨b, o + i * 3 + 2, none⟩ = some (.slice (some ⟨bc, co, none⟩) m cc))
    (e0 : w.cell? ⟨bc, co + a * 2, none⟩ = some (.int .i64 x.1)) (e1 : w.cell? ⟨bc, co + a * 2 + 1, none⟩ = some (.int .i64 x.2)) (r : Bool) (hr : decide (x = (k1, a1)) = r) :
    Calls Tryd.prog 58 #[.agg #[vF, .int .i64 now, vO, .slice (some ⟨b, o, none⟩) n cap, vh], .agg #[.int .i64 i, .int .i64 ((a : Int) + 1), vl, .slice os ns cs], .agg #[.int .i64 k1, .int .i64 a1]] w fun e w' => e = askEnd 1 r ∧ Kept w w' := by
  obtain ⟨hb1, hb2⟩ := hb
  have hwa : IntKind.i64.wrap (a : Int) = a := wrap_tiny _ (by omega) (by omega)
  have hi1 : (i : Int) < (n : Int) := by omega
  have hi0 : (0 : Int) ≤ (i : Int) := by omega
  have ha1 : (a : Int) < (m : Int) := by omega
  have ha0 : (0 : Int) ≤ (a : Int) := by omega
  have hap : (a : Int) + 1 - 1 = a := by omega
  have hd : decide (0 < (a : Int) + 1) = true := decide_eq_true (by omega)
  have hzb : ((ns : Int) == h - 1) = true := by rw [beq_iff_eq]; exact hz
  have hwr : IntKind.i64.wrap (h - 1) = h - 1 := wrap_tiny _ (by omega) (by omega)
  have HHH := hide hh
  clear hh
  go_enter Tryd.func58, Tryd.ntmps58
  go_wp2
  generalize hw0 : ((w.alloc (.cells #[vF, .int .i64 now, vO, .slice (some ⟨b, o, none⟩) n cap, vh] 74)).alloc (.cells #[.int .i64 i, .int .i64 ((a : Int) + 1), vl, .slice os ns cs] 64)).alloc (.cells #[.int .i64 k1, .int .i64 a1] 54) = w0 at *
  have hk0 : Kept w w0 := by rw [← hw0]; exact (((Kept.refl w).alloc _).alloc _).alloc _
  generalize hB0 : w.heap.size = B0 at *
  generalize hB1 : B0 + 1 = B1 at *
  have HY : Hid (∀ u, Kept w0 u → u.cell? ⟨B0, 0, none⟩ = some vF ∧ u.cell? ⟨B0, 1, none⟩ = some (.int .i64 now) ∧ u.cell? ⟨B0, 2, none⟩ = some vO ∧ u.cell? ⟨B0, 3, none⟩ = some (.slice (some ⟨b, o, none⟩) n cap) ∧ u.cell? ⟨B0, 4, none⟩ = some vh ∧ u.cell? ⟨B1, 0, none⟩ = some (.int .i64 i) ∧ u.cell? ⟨B1, 1, none⟩ = some (.int .i64 ((a : Int) + 1)) ∧ u.cell? ⟨B1, 2, none⟩ = some vl ∧ u.cell? ⟨B1, 3, none⟩ = some (.slice os ns cs)) := by
    have q : w0.cell? ⟨B0, 0, none⟩ = some vF ∧ w0.cell? ⟨B0, 1, none⟩ = some (.int .i64 now) ∧ w0.cell? ⟨B0, 2, none⟩ = some vO ∧ w0.cell? ⟨B0, 3, none⟩ = some (.slice (some ⟨b, o, none⟩) n cap) ∧ w0.cell? ⟨B0, 4, none⟩ = some vh ∧ w0.cell? ⟨B1, 0, none⟩ = some (.int .i64 i) ∧ w0.cell? ⟨B1, 1, none⟩ = some (.int .i64 ((a : Int) + 1)) ∧ w0.cell? ⟨B1, 2, none⟩ = some vl ∧ w0.cell? ⟨B1, 3, none⟩ = some (.slice os ns cs) := by
      have L0 : w0.heap[B0]? = some (.cells #[vF, .int .i64 now, vO, .slice (some ⟨b, o, none⟩) n cap, vh] 74) := by
        rw [← hw0]; exact lays_alloc (lays_alloc (lays_new hB0) _) _
      have L1 : w0.heap[B1]? = some (.cells #[.int .i64 i, .int .i64 ((a : Int) + 1), vl, .slice os ns cs] 64) := by
        rw [← hw0]; exact lays_alloc (lays_new (by simp [hB0, hB1])) _
      exact ⟨cell_at L0 rfl, cell_at L0 rfl, cell_at L0 rfl, cell_at L0 rfl, cell_at L0 rfl, cell_at L1 rfl, cell_at L1 rfl, cell_at L1 rfl, cell_at L1 rfl⟩
    obtain ⟨q0, q1, q2, q3, q4, q5, q6, q7, q8⟩ := q
    exact hide (fun u hu => ⟨hu.cell q0, hu.cell q1, hu.cell q2, hu.cell q3, hu.cell q4, hu.cell q5, hu.cell q6, hu.cell q7, hu.cell q8⟩)
  have HY2 : Hid (∀ u, Kept w0 u → u.cell? ⟨B0, 3, none⟩ = some (.slice (some ⟨b, o, none⟩) n cap) ∧ u.cell? ⟨B1, 0, none⟩ = some (.int .i64 i) ∧ u.cell? ⟨B1, 1, none⟩ = some (.int .i64 ((a : Int) + 1)) ∧ u.cell? ⟨B1 + 1, 0, none⟩ = some (.int .i64 k1) ∧ u.cell? ⟨B1 + 1, 1, none⟩ = some (.int .i64 a1) ∧ u.cell? ⟨b, o + i * 3 + 2, none⟩ = some (.slice (some ⟨bc, co, none⟩) m cc) ∧ u.cell? ⟨bc, co + a * 2, none⟩ = some (.int .i64 x.1) ∧ u.cell? ⟨bc, co + a * 2 + 1, none⟩ = some (.int .i64 x.2)) := by
    have L2 : w0.heap[B1 + 1]? = some (.cells #[.int .i64 k1, .int .i64 a1] 54) := by
      rw [← hw0]; exact lays_new (by simp [hB0, hB1])
    exact hide (fun u hu => by
      obtain ⟨_, _, _, r3, _, r5, r6, _, _⟩ := (unhide HY) u hu
      exact ⟨r3, r5, r6, hu.cell (cell_at L2 rfl), hu.cell (cell_at L2 rfl), (hk0.trans hu).cell c2, (hk0.trans hu).cell e0, (hk0.trans hu).cell e1⟩)
  have HH := hide (show ∀ u, Kept w0 u → _ from fun u hu => (unhide HHH) u (hk0.trans hu))
  have HK0 := hide hk0
  clear hw0 hk0 HHH hB0 hB1 c2 e0 e1 hz
  go_region_held3 (fun u => u.cell? ⟨B0, 0, none⟩ = some vF ∧ u.cell? ⟨B0, 1, none⟩ = some (.int .i64 now) ∧ u.cell? ⟨B0, 2, none⟩ = some vO ∧ u.cell? ⟨B0, 3, none⟩ = some (.slice (some ⟨b, o, none⟩) n cap) ∧ u.cell? ⟨B0, 4, none⟩ = some vh ∧ u.cell? ⟨B1, 0, none⟩ = some (.int .i64 i) ∧ u.cell? ⟨B1, 1, none⟩ = some (.int .i64 ((a : Int) + 1)) ∧ u.cell? ⟨B1, 2, none⟩ = some vl ∧ u.cell? ⟨B1, 3, none⟩ = some (.slice os ns cs))
    (first | exact (unhide HY) _ (Kept.trans (Kept.trans (by repeat (first | exact Kept.refl _ | refine Kept.drew ?_ | refine Kept.alloc ?_ _)) hkA) (by repeat (first | exact Kept.refl _ | refine Kept.drew ?_ | refine Kept.alloc ?_ _))) | exact (unhide HY) _ (by repeat (first | exact Kept.refl _ | refine Kept.drew ?_ | refine Kept.alloc ?_ _)))
    (first | (go_at_call 56; refine ((unhide HH) _ (by repeat (first | exact Kept.refl _ | refine Kept.drew ?_ | refine Kept.alloc ?_ _))).mono ?_; rintro e wA ⟨rfl, hkA⟩) | (go_at_call 53; refine (ask2_ok _ _ _ _ (by simp) (by simp)).mono ?_; rintro e wC ⟨rfl, rfl⟩))
  all_goals go_wp2_with fail
  have hkA2 : Kept w0 (wA.alloc (.cells #[.bool true, .bool true] 4)) := Kept.trans (Kept.trans (by repeat (first | exact Kept.refl _ | refine Kept.drew ?_ | refine Kept.alloc ?_ _)) hkA) (by repeat (first | exact Kept.refl _ | refine Kept.drew ?_ | refine Kept.alloc ?_ _))
  generalize hwz : wA.alloc (.cells #[.bool true, .bool true] 4) = wz at *
  have HY2 := hide (show ∀ u, Kept wz u → _ from fun u hu => (unhide HY2) u (hkA2.trans hu))
  have HKA := hide ((unhide HK0).trans hkA2)
  have HR := hide hr
  obtain ⟨x1, x2⟩ := x
  simp only at HY2
  clear hwz hkA2 hkA HK0 HY HH hr
  by_cases hx1 : x1 = k1
  · subst hx1
    by_cases hx2 : x2 = a1
    · subst hx2
      go_region_held2 (fun u => u.cell? ⟨B0, 3, none⟩ = some (.slice (some ⟨b, o, none⟩) n cap) ∧ u.cell? ⟨B1, 0, none⟩ = some (.int .i64 i) ∧ u.cell? ⟨B1, 1, none⟩ = some (.int .i64 ((a : Int) + 1)) ∧ u.cell? ⟨B1 + 1, 0, none⟩ = some (.int .i64 x1) ∧ u.cell? ⟨B1 + 1, 1, none⟩ = some (.int .i64 x2) ∧ u.cell? ⟨b, o + i * 3 + 2, none⟩ = some (.slice (some ⟨bc, co, none⟩) m cc) ∧ u.cell? ⟨bc, co + a * 2, none⟩ = some (.int .i64 x1) ∧ u.cell? ⟨bc, co + a * 2 + 1, none⟩ = some (.int .i64 x2))
        (exact (unhide HY2) _ (by repeat (first | exact Kept.refl _ | refine Kept.drew ?_ | refine Kept.alloc ?_ _)))
        (first | (go_at_call 53; refine (ask1_ok _ _ _ _ (by simp)).mono ?_; rintro e wC ⟨rfl, rfl⟩))
      have hrt : r = true := by rw [← unhide HR]; simp
      subst hrt
      all_goals go_end0
      all_goals exact ⟨rfl, ((unhide HKA).alloc _).drew⟩
    · have hb : (x2 == a1) = false := by rw [beq_eq_false_iff_ne]; exact hx2
      have hrf : r = false := by rw [← unhide HR]; exact decide_eq_false (fun e => hx2 (congrArg Prod.snd e))
      subst hrf
      clear hx2
      go_region_held2 (fun u => u.cell? ⟨B0, 3, none⟩ = some (.slice (some ⟨b, o, none⟩) n cap) ∧ u.cell? ⟨B1, 0, none⟩ = some (.int .i64 i) ∧ u.cell? ⟨B1, 1, none⟩ = some (.int .i64 ((a : Int) + 1)) ∧ u.cell? ⟨B1 + 1, 0, none⟩ = some (.int .i64 x1) ∧ u.cell? ⟨B1 + 1, 1, none⟩ = some (.int .i64 a1) ∧ u.cell? ⟨b, o + i * 3 + 2, none⟩ = some (.slice (some ⟨bc, co, none⟩) m cc) ∧ u.cell? ⟨bc, co + a * 2, none⟩ = some (.int .i64 x1) ∧ u.cell? ⟨bc, co + a * 2 + 1, none⟩ = some (.int .i64 x2))
        (first | exact hF.elim | exact (unhide HY2) _ (by repeat (first | exact Kept.refl _ | refine Kept.drew ?_ | refine Kept.alloc ?_ _)))
        (first | (go_at_call 53; refine (ask1_no _ _ _ _ (by simp)).mono ?_; rintro e wC ⟨rfl, rfl⟩; dsimp only [left]; refine (Classical.em False).elim (fun hF => ?_) (fun _ => ⟨rfl, rfl, Kept.trans (unhide HKA) (by repeat (first | exact Kept.refl _ | refine Kept.drew ?_ | refine Kept.alloc ?_ _))⟩); refine viaK ‹Shut _› hF ⟨#[], []⟩ w0 ?_))
      all_goals exact hF.elim
  · have hb : (x1 == k1) = false := by rw [beq_eq_false_iff_ne]; exact hx1
    have hrf : r = false := by rw [← unhide HR]; exact decide_eq_false (fun e => hx1 (congrArg Prod.fst e))
    subst hrf
    clear hx1
    go_region_held2 (fun u => u.cell? ⟨B0, 3, none⟩ = some (.slice (some ⟨b, o, none⟩) n cap) ∧ u.cell? ⟨B1, 0, none⟩ = some (.int .i64 i) ∧ u.cell? ⟨B1, 1, none⟩ = some (.int .i64 ((a : Int) + 1)) ∧ u.cell? ⟨B1 + 1, 0, none⟩ = some (.int .i64 k1) ∧ u.cell? ⟨B1 + 1, 1, none⟩ = some (.int .i64 a1) ∧ u.cell? ⟨b, o + i * 3 + 2, none⟩ = some (.slice (some ⟨bc, co, none⟩) m cc) ∧ u.cell? ⟨bc, co + a * 2, none⟩ = some (.int .i64 x1) ∧ u.cell? ⟨bc, co + a * 2 + 1, none⟩ = some (.int .i64 x2))
      (first | exact hF.elim | exact (unhide HY2) _ (by repeat (first | exact Kept.refl _ | refine Kept.drew ?_ | refine Kept.alloc ?_ _)))
      (first | (go_at_call 53; refine (ask1_no _ _ _ _ (by simp)).mono ?_; rintro e wC ⟨rfl, rfl⟩; dsimp only [left]; refine (Classical.em False).elim (fun hF => ?_) (fun _ => ⟨rfl, rfl, Kept.trans (unhide HKA) (by repeat (first | exact Kept.refl _ | refine Kept.drew ?_ | refine Kept.alloc ?_ _))⟩); refine viaK ‹Shut _› hF ⟨#[], []⟩ w0 ?_))
    all_goals exact hF.elim
theorem askWaiting_any (p : List Fn) (s : St) (v u : Value) (x : Fr) (k1 a1 : Int) (w : World) (hj : JudgeV w v p s) (hx : FrV w u x) (hl : HLen p) (hin : InFrame p x) (hb : ∀ k a, k < p.length → -1000 ≤ (hgt p k).getD a 0 ∧ (hgt p k).getD a 0 ≤ 1000) :
    Calls Tryd.prog 58 #[v, u, .agg #[.int .i64 k1, .int .i64 a1]] w fun e w' => e = askEnd 1 (jwaitB p x (k1, a1)) ∧ Kept w w' := by
  have hh : ∀ y, Kept w y → Calls Tryd.prog 56 #[v, u] y fun e w' => e = .returned (.int .i64 (hAt p x)) ∧ Kept y w' := fun y hy => height_any p s v u x y (hj.kept hy) (hx.kept hy) hl hin
  obtain ⟨vF, vO, vp, vh, rfl, _, _, h3, _⟩ := hj
  obtain ⟨vl, vs, rfl, _, h5⟩ := hx
  obtain ⟨os, cs, rfl, hs, _⟩ := h5
  obtain ⟨oa, cap, rfl, hpl, hpc⟩ := id h3
  obtain ⟨f0, f1, a0, at1⟩ := hin
  obtain ⟨i, hi⟩ : ∃ i : Nat, x.fn = i := ⟨x.fn.toNat, by omega⟩
  have hip : i < p.length := by omega
  rw [hi, Int.toNat_natCast] at at1
  obtain ⟨b, o, cv, rfl, c0, c1, c2, hc⟩ := hpc i _ (getD_of_lt p i Fn.zero hip)
  obtain ⟨oc, cc, rfl, hm, hcc⟩ := hc
  have hbd : -1000 ≤ hAt p x ∧ hAt p x ≤ 1000 := by
    unfold hAt; rw [hi, Int.toNat_natCast]; exact hb i _ hip
  rw [hi] at hh ⊢
  by_cases hno : 0 < x.at_ ∧ (x.stack.length : Int) = hAt p x - 1
  · obtain ⟨a, ha⟩ : ∃ a : Nat, x.at_ = (a : Int) + 1 := ⟨x.at_.toNat - 1, by omega⟩
    have hlt : a < (codeOf p i).length := by omega
    obtain ⟨bc, co, rfl, k0, kk1⟩ := hcc a _ (getD_of_lt (codeOf p i) a (0, 0) hlt)
    rw [ha] at hh ⊢
    refine askWaiting_good _ cap i _ cs b o bc co _ cc a vF vO vh vl os s.now (hAt p x) k1 a1 ((codeOf p i).getD a (0, 0)) w hbd hs hh hip (by unfold codeOf at at1; omega) hm hno.2 c2 k0 kk1 _ ?_
    unfold jwaitB opAhead
    rw [hi, ha, Int.toNat_natCast, show ((a : Int) + 1).toNat - 1 = a by omega, decide_eq_true (by omega : 0 < (a : Int) + 1), decide_eq_true hno.2]
    rfl
  · have hf : jwaitB p x (k1, a1) = false := by
      unfold jwaitB
      rw [Bool.and_eq_false_iff]
      left
      rw [Bool.and_eq_false_iff]
      by_cases h1 : 0 < x.at_
      · right; exact decide_eq_false (fun e => hno ⟨h1, e⟩)
      · left; exact decide_eq_false h1
    rw [hf]
    exact askWaiting_bad _ cap i _ cs b o vF vO vh vl os s.now x.at_ (hAt p x) k1 a1 w hbd hs hh hno
end Go.Proofs.YtlapliclhfpgkaaDoor
