/- StateR, StateV -/
import Derived.Test.YtokhibfenccijaaGreatDoorKB30
import Derived.Deep.RegionHeld2
import Derived.Test.YtokhibfenccijaaGreatDoorKB26
set_option maxRecDepth 100000
set_option maxHeartbeats 8000000
namespace Go.Proofs.YtokhibfenccijaaGreatDoor
open Go.RowKit
theorem cell_at {w : World} {b : Nat} {c : Array Value} {t : TypeId} {fr : Nat × Nat} (h : w.heap[b]? = some (.cells c t fr)) {i : Nat} {v : Value} (hv : c[i]? = some v) : w.cell? ⟨b, i, none⟩ = some v := (cell_lays h i).trans hv
theorem viaK {K : Act → World → Prop} {R : Act → World → Prop} {S : World → Prop} (_ : Shut (∀ a w, S w → (S w → R a w) → K a w)) (hF : False) (a : Act) (w : World) {G : Prop} (_ : K a w) : G := hF.elim
theorem askWaiting_bad (n cap i ns cs b o : Nat) (vF vO vh vl : Value) (os : Option Addr) (now at_ h k1 a1 : Int) (w : World) (hb : -1000 ≤ h ∧ h ≤ 1000) (_hns : ns ≤ 17592186043904)
    (hh : ∀ u, Kept w u → Calls Tryz.prog 159 #[.agg #[vF, .int .i64 now, vO, .slice (some ⟨b, o, none⟩) n cap, vh], .agg #[.int .i64 i, .int .i64 at_, vl, .slice os ns cs]] u fun e u' => e = .returned (.int .i64 h) ∧ Kept u u')
    (hno : ¬ (0 < at_ ∧ (ns : Int) = h - 1)) :
    Calls Tryz.prog 161 #[.agg #[vF, .int .i64 now, vO, .slice (some ⟨b, o, none⟩) n cap, vh], .agg #[.int .i64 i, .int .i64 at_, vl, .slice os ns cs], .agg #[.int .i64 k1, .int .i64 a1]] w fun e w' => e = left 1 ∧ Kept w w' := by
  obtain ⟨hb1, hb2⟩ := hb
  have hwr : IntKind.i64.wrap (h - 1) = h - 1 := wrap_tiny _ (by omega) (by omega)
  have HHH := hide hh
  clear hh
  go_enter Tryz.func161, Tryz.ntmps161
  go_wp2
  generalize hw0 : ((w.alloc (.cells #[vF, .int .i64 now, vO, .slice (some ⟨b, o, none⟩) n cap, vh] 162)).alloc (.cells #[.int .i64 i, .int .i64 at_, vl, .slice os ns cs] 92)).alloc (.cells #[.int .i64 k1, .int .i64 a1] 72) = w0 at *
  have hk0 : Kept w w0 := by rw [← hw0]; exact (((Kept.refl w).alloc _).alloc _).alloc _
  generalize hB0 : w.heap.size = B0 at *
  generalize hB1 : B0 + 1 = B1 at *
  have HY : Hid (∀ u, Kept w0 u → u.cell? ⟨B0, 0, none⟩ = some vF ∧ u.cell? ⟨B0, 1, none⟩ = some (.int .i64 now) ∧ u.cell? ⟨B0, 2, none⟩ = some vO ∧ u.cell? ⟨B0, 3, none⟩ = some (.slice (some ⟨b, o, none⟩) n cap) ∧ u.cell? ⟨B0, 4, none⟩ = some vh ∧ u.cell? ⟨B1, 0, none⟩ = some (.int .i64 i) ∧ u.cell? ⟨B1, 1, none⟩ = some (.int .i64 at_) ∧ u.cell? ⟨B1, 2, none⟩ = some vl ∧ u.cell? ⟨B1, 3, none⟩ = some (.slice os ns cs)) := by
    have q : w0.cell? ⟨B0, 0, none⟩ = some vF ∧ w0.cell? ⟨B0, 1, none⟩ = some (.int .i64 now) ∧ w0.cell? ⟨B0, 2, none⟩ = some vO ∧ w0.cell? ⟨B0, 3, none⟩ = some (.slice (some ⟨b, o, none⟩) n cap) ∧ w0.cell? ⟨B0, 4, none⟩ = some vh ∧ w0.cell? ⟨B1, 0, none⟩ = some (.int .i64 i) ∧ w0.cell? ⟨B1, 1, none⟩ = some (.int .i64 at_) ∧ w0.cell? ⟨B1, 2, none⟩ = some vl ∧ w0.cell? ⟨B1, 3, none⟩ = some (.slice os ns cs) := by
      have L0 : w0.heap[B0]? = some (.cells #[vF, .int .i64 now, vO, .slice (some ⟨b, o, none⟩) n cap, vh] 162) := by
        rw [← hw0]; exact lays_alloc (lays_alloc (lays_new hB0) _) _
      have L1 : w0.heap[B1]? = some (.cells #[.int .i64 i, .int .i64 at_, vl, .slice os ns cs] 92) := by
        rw [← hw0]; exact lays_alloc (lays_new (by simp [hB0, hB1])) _
      exact ⟨cell_at L0 rfl, cell_at L0 rfl, cell_at L0 rfl, cell_at L0 rfl, cell_at L0 rfl, cell_at L1 rfl, cell_at L1 rfl, cell_at L1 rfl, cell_at L1 rfl⟩
    obtain ⟨q0, q1, q2, q3, q4, q5, q6, q7, q8⟩ := q
    exact hide (fun u hu => ⟨hu.cell q0, hu.cell q1, hu.cell q2, hu.cell q3, hu.cell q4, hu.cell q5, hu.cell q6, hu.cell q7, hu.cell q8⟩)
  have HH := hide (show ∀ u, Kept w0 u → _ from fun u hu => (unhide HHH) u (hk0.trans hu))
  have HK0 := hide hk0
  clear hw0 hk0 HHH hB0 hB1
  by_cases h1 : 0 < at_
  · have h2 : ¬ (ns : Int) = h - 1 := fun e => hno ⟨h1, e⟩
    have hb : ((ns : Int) == h - 1) = false := by rw [beq_eq_false_iff_ne]; exact h2
    have hd : decide (0 < at_) = true := decide_eq_true h1
    clear hno h2
    go_region_held2 (fun u => u.cell? ⟨B0, 0, none⟩ = some vF ∧ u.cell? ⟨B0, 1, none⟩ = some (.int .i64 now) ∧ u.cell? ⟨B0, 2, none⟩ = some vO ∧ u.cell? ⟨B0, 3, none⟩ = some (.slice (some ⟨b, o, none⟩) n cap) ∧ u.cell? ⟨B0, 4, none⟩ = some vh ∧ u.cell? ⟨B1, 0, none⟩ = some (.int .i64 i) ∧ u.cell? ⟨B1, 1, none⟩ = some (.int .i64 at_) ∧ u.cell? ⟨B1, 2, none⟩ = some vl ∧ u.cell? ⟨B1, 3, none⟩ = some (.slice os ns cs))
      (first | exact hF.elim | exact (unhide HY) _ (Kept.trans (Kept.trans (by repeat (first | exact Kept.refl _ | refine Kept.drew ?_ | refine Kept.alloc ?_ _)) hkA) (by repeat (first | exact Kept.refl _ | refine Kept.drew ?_ | refine Kept.alloc ?_ _))) | exact (unhide HY) _ (by repeat (first | exact Kept.refl _ | refine Kept.drew ?_ | refine Kept.alloc ?_ _)))
      (first | (go_at_call 159; refine ((unhide HH) _ (by repeat (first | exact Kept.refl _ | refine Kept.drew ?_ | refine Kept.alloc ?_ _))).mono ?_; rintro e wA ⟨rfl, hkA⟩) | (go_at_call 156; refine (ask2_no' _ _ _ true _ (by simp) (by simp)).mono ?_; rintro e wC ⟨rfl, rfl⟩; dsimp only [left]; refine (Classical.em False).elim (fun hF => ?_) (fun _ => ⟨rfl, rfl, Kept.trans (unhide HK0) (Kept.trans (Kept.trans (by repeat (first | exact Kept.refl _ | refine Kept.drew ?_ | refine Kept.alloc ?_ _)) hkA) (by repeat (first | exact Kept.refl _ | refine Kept.drew ?_ | refine Kept.alloc ?_ _)))⟩); refine viaK ‹Shut _› hF ⟨#[], []⟩ w0 ?_))
    all_goals exact hF.elim
  · have hd : decide (0 < at_) = false := decide_eq_false h1
    clear hno h1
    by_cases h2 : (ns : Int) = h - 1
    · have hb : ((ns : Int) == h - 1) = true := by rw [beq_iff_eq]; exact h2
      clear h2
      go_region_held2 (fun u => u.cell? ⟨B0, 0, none⟩ = some vF ∧ u.cell? ⟨B0, 1, none⟩ = some (.int .i64 now) ∧ u.cell? ⟨B0, 2, none⟩ = some vO ∧ u.cell? ⟨B0, 3, none⟩ = some (.slice (some ⟨b, o, none⟩) n cap) ∧ u.cell? ⟨B0, 4, none⟩ = some vh ∧ u.cell? ⟨B1, 0, none⟩ = some (.int .i64 i) ∧ u.cell? ⟨B1, 1, none⟩ = some (.int .i64 at_) ∧ u.cell? ⟨B1, 2, none⟩ = some vl ∧ u.cell? ⟨B1, 3, none⟩ = some (.slice os ns cs))
        (first | exact hF.elim | exact (unhide HY) _ (Kept.trans (Kept.trans (by repeat (first | exact Kept.refl _ | refine Kept.drew ?_ | refine Kept.alloc ?_ _)) hkA) (by repeat (first | exact Kept.refl _ | refine Kept.drew ?_ | refine Kept.alloc ?_ _))) | exact (unhide HY) _ (by repeat (first | exact Kept.refl _ | refine Kept.drew ?_ | refine Kept.alloc ?_ _)))
        (first | (go_at_call 159; refine ((unhide HH) _ (by repeat (first | exact Kept.refl _ | refine Kept.drew ?_ | refine Kept.alloc ?_ _))).mono ?_; rintro e wA ⟨rfl, hkA⟩) | (go_at_call 156; refine (ask2_no _ _ _ true _ (by simp) (by simp)).mono ?_; rintro e wC ⟨rfl, rfl⟩; dsimp only [left]; refine (Classical.em False).elim (fun hF => ?_) (fun _ => ⟨rfl, rfl, Kept.trans (unhide HK0) (Kept.trans (Kept.trans (by repeat (first | exact Kept.refl _ | refine Kept.drew ?_ | refine Kept.alloc ?_ _)) hkA) (by repeat (first | exact Kept.refl _ | refine Kept.drew ?_ | refine Kept.alloc ?_ _)))⟩); refine viaK ‹Shut _› hF ⟨#[], []⟩ w0 ?_))
      all_goals exact hF.elim
    · have hb : ((ns : Int) == h - 1) = false := by rw [beq_eq_false_iff_ne]; exact h2
      clear h2
      go_region_held2 (fun u => u.cell? ⟨B0, 0, none⟩ = some vF ∧ u.cell? ⟨B0, 1, none⟩ = some (.int .i64 now) ∧ u.cell? ⟨B0, 2, none⟩ = some vO ∧ u.cell? ⟨B0, 3, none⟩ = some (.slice (some ⟨b, o, none⟩) n cap) ∧ u.cell? ⟨B0, 4, none⟩ = some vh ∧ u.cell? ⟨B1, 0, none⟩ = some (.int .i64 i) ∧ u.cell? ⟨B1, 1, none⟩ = some (.int .i64 at_) ∧ u.cell? ⟨B1, 2, none⟩ = some vl ∧ u.cell? ⟨B1, 3, none⟩ = some (.slice os ns cs))
        (first | exact hF.elim | exact (unhide HY) _ (Kept.trans (Kept.trans (by repeat (first | exact Kept.refl _ | refine Kept.drew ?_ | refine Kept.alloc ?_ _)) hkA) (by repeat (first | exact Kept.refl _ | refine Kept.drew ?_ | refine Kept.alloc ?_ _))) | exact (unhide HY) _ (by repeat (first | exact Kept.refl _ | refine Kept.drew ?_ | refine Kept.alloc ?_ _)))
        (first | (go_at_call 159; refine ((unhide HH) _ (by repeat (first | exact Kept.refl _ | refine Kept.drew ?_ | refine Kept.alloc ?_ _))).mono ?_; rintro e wA ⟨rfl, hkA⟩) | (go_at_call 156; refine (ask2_no _ _ _ false _ (by simp) (by simp)).mono ?_; rintro e wC ⟨rfl, rfl⟩; dsimp only [left]; refine (Classical.em False).elim (fun hF => ?_) (fun _ => ⟨rfl, rfl, Kept.trans (unhide HK0) (Kept.trans (Kept.trans (by repeat (first | exact Kept.refl _ | refine Kept.drew ?_ | refine Kept.alloc ?_ _)) hkA) (by repeat (first | exact Kept.refl _ | refine Kept.drew ?_ | refine Kept.alloc ?_ _)))⟩); refine viaK ‹Shut _› hF ⟨#[], []⟩ w0 ?_))
      all_goals exact hF.elim
theorem askWaiting_good (n cap i ns cs b o bc co m cc a : Nat) (vF vO vh vl : Value) (os : Option Addr) (now h k1 a1 : Int) (x : Int × Int) (w : World) (hb : -1000 ≤ h ∧ h ≤ 1000) (_hns : ns ≤ 17592186043904)
    (hh : ∀ u, Kept w u → Calls Tryz.prog 159 #[.agg #[vF, .int .i64 now, vO, .slice (some ⟨b, o, none⟩) n cap, vh], .agg #[.int .i64 i, .int .i64 ((a : Int) + 1), vl, .slice os ns cs]] u fun e u' => e = .returned (.int .i64 h) ∧ Kept u u')
    (hi : i < n) (ha : a + 1 < m) (hm : m ≤ 8796093022208) (hz : (ns : Int) = h - 1) (c2 : w.cell? ⟨b, o + i * 3 + 2, none⟩ = some (.slice (some ⟨bc, co, none⟩) m cc))
    (e0 : w.cell? ⟨bc, co + a * 2, none⟩ = some (.int .i64 x.1)) (e1 : w.cell? ⟨bc, co + a * 2 + 1, none⟩ = some (.int .i64 x.2)) (r : Bool) (hr : decide (x = (k1, a1)) = r) :
    Calls Tryz.prog 161 #[.agg #[vF, .int .i64 now, vO, .slice (some ⟨b, o, none⟩) n cap, vh], .agg #[.int .i64 i, .int .i64 ((a : Int) + 1), vl, .slice os ns cs], .agg #[.int .i64 k1, .int .i64 a1]] w fun e w' => e = askEnd 1 r ∧ Kept w w' := by
  obtain ⟨hb1, hb2⟩ := hb
  have hwa : IntKind.i64.wrap (a : Int) = a := wrap_tiny _ (by omega) (by omega)
  have hi1 : (i : Int) < (n : Int) := by omega
  have hi0 : (0 : Int) ≤ (i : Int) := by omega
  have ha1 : (a : Int) < (m : Int) := by omega
  have ha0 : (0 : Int) ≤ (a : Int) := by omega
  have hap : (a : Int) + 1 - 1 = a := by omega
  have hd : decide (0 < (a : Int) + 1) = true := decide_eq_true (by omega)
  have hzb : ((ns : Int) == h - 1) = true := by rw [beq_iff_eq]; exact hz
  have hwr : IntKind.i64.wrap (h - 1) = h - 1 := wrap_tiny _ (by omega) (by omega)
  have HHH := hide hh
  clear hh
  go_enter Tryz.func161, Tryz.ntmps161
  go_wp2
  generalize hw0 : ((w.alloc (.cells #[vF, .int .i64 now, vO, .slice (some ⟨b, o, none⟩) n cap, vh] 162)).alloc (.cells #[.int .i64 i, .int .i64 ((a : Int) + 1), vl, .slice os ns cs] 92)).alloc (.cells #[.int .i64 k1, .int .i64 a1] 72) = w0 at *
  have hk0 : Kept w w0 := by rw [← hw0]; exact (((Kept.refl w).alloc _).alloc _).alloc _
  generalize hB0 : w.heap.size = B0 at *
  generalize hB1 : B0 + 1 = B1 at *
  have HY : Hid (∀ u, Kept w0 u → u.cell? ⟨B0, 0, none⟩ = some vF ∧ u.cell? ⟨B0, 1, none⟩ = some (.int .i64 now) ∧ u.cell? ⟨B0, 2, none⟩ = some vO ∧ u.cell? ⟨B0, 3, none⟩ = some (.slice (some ⟨b, o, none⟩) n cap) ∧ u.cell? ⟨B0, 4, none⟩ = some vh ∧ u.cell? ⟨B1, 0, none⟩ = some (.int .i64 i) ∧ u.cell? ⟨B1, 1, none⟩ = some (.int .i64 ((a : Int) + 1)) ∧ u.cell? ⟨B1, 2, none⟩ = some vl ∧ u.cell? ⟨B1, 3, none⟩ = some (.slice os ns cs)) := by
    have q : w0.cell? ⟨B0, 0, none⟩ = some vF ∧ w0.cell? ⟨B0, 1, none⟩ = some (.int .i64 now) ∧ w0.cell? ⟨B0, 2, none⟩ = some vO ∧ w0.cell? ⟨B0, 3, none⟩ = some (.slice (some ⟨b, o, none⟩) n cap) ∧ w0.cell? ⟨B0, 4, none⟩ = some vh ∧ w0.cell? ⟨B1, 0, none⟩ = some (.int .i64 i) ∧ w0.cell? ⟨B1, 1, none⟩ = some (.int .i64 ((a : Int) + 1)) ∧ w0.cell? ⟨B1, 2, none⟩ = some vl ∧ w0.cell? ⟨B1, 3, none⟩ = some (.slice os ns cs) := by
      have L0 : w0.heap[B0]? = some (.cells #[vF, .int .i64 now, vO, .slice (some ⟨b, o, none⟩) n cap, vh] 162) := by
        rw [← hw0]; exact lays_alloc (lays_alloc (lays_new hB0) _) _
      have L1 : w0.heap[B1]? = some (.cells #[.int .i64 i, .int .i64 ((a : Int) + 1), vl, .slice os ns cs] 92) := by
        rw [← hw0]; exact lays_alloc (lays_new (by simp [hB0, hB1])) _
      exact ⟨cell_at L0 rfl, cell_at L0 rfl, cell_at L0 rfl, cell_at L0 rfl, cell_at L0 rfl, cell_at L1 rfl, cell_at L1 rfl, cell_at L1 rfl, cell_at L1 rfl⟩
    obtain ⟨q0, q1, q2, q3, q4, q5, q6, q7, q8⟩ := q
    exact hide (fun u hu => ⟨hu.cell q0, hu.cell q1, hu.cell q2, hu.cell q3, hu.cell q4, hu.cell q5, hu.cell q6, hu.cell q7, hu.cell q8⟩)
  have HY2 : Hid (∀ u, Kept w0 u → u.cell? ⟨B0, 3, none⟩ = some (.slice (some ⟨b, o, none⟩) n cap) ∧ u.cell? ⟨B1, 0, none⟩ = some (.int .i64 i) ∧ u.cell? ⟨B1, 1, none⟩ = some (.int .i64 ((a : Int) + 1)) ∧ u.cell? ⟨B1 + 1, 0, none⟩ = some (.int .i64 k1) ∧ u.cell? ⟨B1 + 1, 1, none⟩ = some (.int .i64 a1) ∧ u.cell? ⟨b, o + i * 3 + 2, none⟩ = some (.slice (some ⟨bc, co, none⟩) m cc) ∧ u.cell? ⟨bc, co + a * 2, none⟩ = some (.int .i64 x.1) ∧ u.cell? ⟨bc, co + a * 2 + 1, none⟩ = some (.int .i64 x.2)) := by
    have L2 : w0.heap[B1 + 1]? = some (.cells #[.int .i64 k1, .int .i64 a1] 72) := by
      rw [← hw0]; exact lays_new (by simp [hB0, hB1])
    exact hide (fun u hu => by
      obtain ⟨_, _, _, r3, _, r5, r6, _, _⟩ := (unhide HY) u hu
      exact ⟨r3, r5, r6, hu.cell (cell_at L2 rfl), hu.cell (cell_at L2 rfl), (hk0.trans hu).cell c2, (hk0.trans hu).cell e0, (hk0.trans hu).cell e1⟩)
  have HH := hide (show ∀ u, Kept w0 u → _ from fun u hu => (unhide HHH) u (hk0.trans hu))
  have HK0 := hide hk0
  clear hw0 hk0 HHH hB0 hB1 c2 e0 e1 hz
  go_region_held3 (fun u => u.cell? ⟨B0, 0, none⟩ = some vF ∧ u.cell? ⟨B0, 1, none⟩ = some (.int .i64 now) ∧ u.cell? ⟨B0, 2, none⟩ = some vO ∧ u.cell? ⟨B0, 3, none⟩ = some (.slice (some ⟨b, o, none⟩) n cap) ∧ u.cell? ⟨B0, 4, none⟩ = some vh ∧ u.cell? ⟨B1, 0, none⟩ = some (.int .i64 i) ∧ u.cell? ⟨B1, 1, none⟩ = some (.int .i64 ((a : Int) + 1)) ∧ u.cell? ⟨B1, 2, none⟩ = some vl ∧ u.cell? ⟨B1, 3, none⟩ = some (.slice os ns cs))
    (first | exact (unhide HY) _ (Kept.trans (Kept.trans (by repeat (first | exact Kept.refl _ | refine Kept.drew ?_ | refine Kept.alloc ?_ _)) hkA) (by repeat (first | exact Kept.refl _ | refine Kept.drew ?_ | refine Kept.alloc ?_ _))) | exact (unhide HY) _ (by repeat (first | exact Kept.refl _ | refine Kept.drew ?_ | refine Kept.alloc ?_ _)))
    (first | (go_at_call 159; refine ((unhide HH) _ (by repeat (first | exact Kept.refl _ | refine Kept.drew ?_ | refine Kept.alloc ?_ _))).mono ?_; rintro e wA ⟨rfl, hkA⟩) | (go_at_call 156; refine (ask2_ok _ _ _ _ (by simp) (by simp)).mono ?_; rintro e wC ⟨rfl, rfl⟩))
  all_goals go_wp2_with fail
  have hkA2 : Kept w0 (wA.alloc (.cells #[.bool true, .bool true] 4)) := Kept.trans (Kept.trans (by repeat (first | exact Kept.refl _ | refine Kept.drew ?_ | refine Kept.alloc ?_ _)) hkA) (by repeat (first | exact Kept.refl _ | refine Kept.drew ?_ | refine Kept.alloc ?_ _))
  generalize hwz : wA.alloc (.cells #[.bool true, .bool true] 4) = wz at *
  have HY2 := hide (show ∀ u, Kept wz u → _ from fun u hu => (unhide HY2) u (hkA2.trans hu))
  have HKA := hide ((unhide HK0).trans hkA2)
  have HR := hide hr
  obtain ⟨x1, x2⟩ := x
  simp only at HY2
  clear hwz hkA2 hkA HK0 HY HH hr
  by_cases hx1 : x1 = k1
  · subst hx1
    by_cases hx2 : x2 = a1
    · subst hx2
      go_region_held2 (fun u => u.cell? ⟨B0, 3, none⟩ = some (.slice (some ⟨b, o, none⟩) n cap) ∧ u.cell? ⟨B1, 0, none⟩ = some (.int .i64 i) ∧ u.cell? ⟨B1, 1, none⟩ = some (.int .i64 ((a : Int) + 1)) ∧ u.cell? ⟨B1 + 1, 0, none⟩ = some (.int .i64 x1) ∧ u.cell? ⟨B1 + 1, 1, none⟩ = some (.int .i64 x2) ∧ u.cell? ⟨b, o + i * 3 + 2, none⟩ = some (.slice (some ⟨bc, co, none⟩) m cc) ∧ u.cell? ⟨bc, co + a * 2, none⟩ = some (.int .i64 x1) ∧ u.cell? ⟨bc, co + a * 2 + 1, none⟩ = some (.int .i64 x2))
        (exact (unhide HY2) _ (by repeat (first | exact Kept.refl _ | refine Kept.drew ?_ | refine Kept.alloc ?_ _)))
        (first | (go_at_call 156; refine (ask1_ok _ _ _ _ (by simp)).mono ?_; rintro e wC ⟨rfl, rfl⟩))
      have hrt : r = true := by rw [← unhide HR]; simp
      subst hrt
      all_goals go_end0
      all_goals exact ⟨rfl, ((unhide HKA).alloc _).drew⟩
    · have hb : (x2 == a1) = false := by rw [beq_eq_false_iff_ne]; exact hx2
      have hrf : r = false := by rw [← unhide HR]; exact decide_eq_false (fun e => hx2 (congrArg Prod.snd e))
      subst hrf
      clear hx2
      go_region_held2 (fun u => u.cell? ⟨B0, 3, none⟩ = some (.slice (some ⟨b, o, none⟩) n cap) ∧ u.cell? ⟨B1, 0, none⟩ = some (.int .i64 i) ∧ u.cell? ⟨B1, 1, none⟩ = some (.int .i64 ((a : Int) + 1)) ∧ u.cell? ⟨B1 + 1, 0, none⟩ = some (.int .i64 x1) ∧ u.cell? ⟨B1 + 1, 1, none⟩ = some (.int .i64 a1) ∧ u.cell? ⟨b, o + i * 3 + 2, none⟩ = some (.slice (some ⟨bc, co, none⟩) m cc) ∧ u.cell? ⟨bc, co + a * 2, none⟩ = some (.int .i64 x1) ∧ u.cell? ⟨bc, co + a * 2 + 1, none⟩ = some (.int .i64 x2))
        (first | exact hF.elim | exact (unhide HY2) _ (by repeat (first | exact Kept.refl _ | refine Kept.drew ?_ | refine Kept.alloc ?_ _)))
        (first | (go_at_call 156; refine (ask1_no _ _ _ _ (by simp)).mono ?_; rintro e wC ⟨rfl, rfl⟩; dsimp only [left]; refine (Classical.em False).elim (fun hF => ?_) (fun _ => ⟨rfl, rfl, Kept.trans (unhide HKA) (by repeat (first | exact Kept.refl _ | refine Kept.drew ?_ | refine Kept.alloc ?_ _))⟩); refine viaK ‹Shut _› hF ⟨#[], []⟩ w0 ?_))
      all_goals exact hF.elim
  · have hb : (x1 == k1) = false := by rw [beq_eq_false_iff_ne]; exact hx1
    have hrf : r = false := by rw [← unhide HR]; exact decide_eq_false (fun e => hx1 (congrArg Prod.fst e))
    subst hrf
    clear hx1
    go_region_held2 (fun u => u.cell? ⟨B0, 3, none⟩ = some (.slice (some ⟨b, o, none⟩) n cap) ∧ u.cell? ⟨B1, 0, none⟩ = some (.int .i64 i) ∧ u.cell? ⟨B1, 1, none⟩ = some (.int .i64 ((a : Int) + 1)) ∧ u.cell? ⟨B1 + 1, 0, none⟩ = some (.int .i64 k1) ∧ u.cell? ⟨B1 + 1, 1, none⟩ = some (.int .i64 a1) ∧ u.cell? ⟨b, o + i * 3 + 2, none⟩ = some (.slice (some ⟨bc, co, none⟩) m cc) ∧ u.cell? ⟨bc, co + a * 2, none⟩ = some (.int .i64 x1) ∧ u.cell? ⟨bc, co + a * 2 + 1, none⟩ = some (.int .i64 x2))
      (first | exact hF.elim | exact (unhide HY2) _ (by repeat (first | exact Kept.refl _ | refine Kept.drew ?_ | refine Kept.alloc ?_ _)))
      (first | (go_at_call 156; refine (ask1_no _ _ _ _ (by simp)).mono ?_; rintro e wC ⟨rfl, rfl⟩; dsimp only [left]; refine (Classical.em False).elim (fun hF => ?_) (fun _ => ⟨rfl, rfl, Kept.trans (unhide HKA) (by repeat (first | exact Kept.refl _ | refine Kept.drew ?_ | refine Kept.alloc ?_ _))⟩); refine viaK ‹Shut _› hF ⟨#[], []⟩ w0 ?_))
    all_goals exact hF.elim
theorem askWaiting_any (p : List Fn) (s : St) (v u : Value) (x : Fr) (k1 a1 : Int) (w : World) (hj : JudgeV w v p s) (hx : FrV w u x) (hl : HLen p) (hin : InFrame p x) (hb : ∀ k a, k < p.length → -1000 ≤ (hgt p k).getD a 0 ∧ (hgt p k).getD a 0 ≤ 1000) :
    Calls Tryz.prog 161 #[v, u, .agg #[.int .i64 k1, .int .i64 a1]] w fun e w' => e = askEnd 1 (jwaitB p x (k1, a1)) ∧ Kept w w' := by
  have hh : ∀ y, Kept w y → Calls Tryz.prog 159 #[v, u] y fun e w' => e = .returned (.int .i64 (hAt p x)) ∧ Kept y w' := fun y hy => height_any p s v u x y (hj.kept hy) (hx.kept hy) hl hin
  obtain ⟨vF, vO, vp, vh, rfl, _, _, h3, _⟩ := hj
  obtain ⟨vl, vs, rfl, _, h5⟩ := hx
  obtain ⟨os, cs, rfl, hs, _⟩ := h5
  obtain ⟨oa, cap, rfl, hpl, hpc⟩ := id h3
  obtain ⟨f0, f1, a0, at1⟩ := hin
  obtain ⟨i, hi⟩ : ∃ i : Nat, x.fn = i := ⟨x.fn.toNat, by omega⟩
  have hip : i < p.length := by omega
  rw [hi, Int.toNat_natCast] at at1
  obtain ⟨b, o, cv, rfl, c0, c1, c2, hc⟩ := hpc i _ (getD_of_lt p i Fn.zero hip)
  obtain ⟨oc, cc, rfl, hm, hcc⟩ := hc
  have hbd : -1000 ≤ hAt p x ∧ hAt p x ≤ 1000 := by
    unfold hAt; rw [hi, Int.toNat_natCast]; exact hb i _ hip
  rw [hi] at hh ⊢
  by_cases hno : 0 < x.at_ ∧ (x.stack.length : Int) = hAt p x - 1
  · obtain ⟨a, ha⟩ : ∃ a : Nat, x.at_ = (a : Int) + 1 := ⟨x.at_.toNat - 1, by omega⟩
    have hlt : a < (codeOf p i).length := by omega
    obtain ⟨bc, co, rfl, k0, kk1⟩ := hcc a _ (getD_of_lt (codeOf p i) a (0, 0) hlt)
    rw [ha] at hh ⊢
    refine askWaiting_good _ cap i _ cs b o bc co _ cc a vF vO vh vl os s.now (hAt p x) k1 a1 ((codeOf p i).getD a (0, 0)) w hbd hs hh hip (by unfold codeOf at at1; omega) hm hno.2 c2 k0 kk1 _ ?_
    unfold jwaitB opAhead
    rw [hi, ha, Int.toNat_natCast, show ((a : Int) + 1).toNat - 1 = a by omega, decide_eq_true (by omega : 0 < (a : Int) + 1), decide_eq_true hno.2]
    rfl
  · have hf : jwaitB p x (k1, a1) = false := by
      unfold jwaitB
      rw [Bool.and_eq_false_iff]
      left
      rw [Bool.and_eq_false_iff]
      by_cases h1 : 0 < x.at_
      · right; exact decide_eq_false (fun e => hno ⟨h1, e⟩)
      · left; exact decide_eq_false h1
    rw [hf]
    exact askWaiting_bad _ cap i _ cs b o vF vO vh vl os s.now x.at_ (hAt p x) k1 a1 w hbd hs hh hno
def framesLe (l : List Fb) : Bool := l.all fun b => decide (b.frames.length ≤ 6)
def callersB (l : List Fb) (n : Nat) : Bool := l.all fun b => nameB b.caller n
theorem all_take {α : Type} {P : α → Bool} {l : List α} {d : α} (h : ∀ i, i < l.length → P (l.getD i d) = true) : l.all P = true := by
  rw [List.all_eq_true]
  intro x hx
  obtain ⟨i, hi, rfl⟩ := List.getElem_of_mem hx
  simpa [List.getD, hi] using h i hi
theorem all_fails {α : Type} {P : α → Bool} {l : List α} {d : α} {i : Nat} (hi : i < l.length) (h : P (l.getD i d) = false) : l.all P = false := by
  rw [Bool.eq_false_iff]
  intro ha
  have := all_getD (d := d) ha hi
  rw [h] at this
  cases this
theorem askLimits_any (p : List Fn) (s : St) (v : Value) (w : World) (hj : JudgeV w v p s) (r : Bool) (hr : (decide (s.fibers.length ≤ 5 ∧ s.out.length ≤ 30) && framesLe s.fibers) = r) :
    Calls Tryz.prog 123 #[v] w fun e w' => e = askEnd 2 r ∧ Kept w w' := by
  obtain ⟨vF, vO, vp, vh, rfl, h1, h2, h3, _⟩ := hj
  obtain ⟨of, cf, rfl, hfl, hcell⟩ := h1
  obtain ⟨oo, co, rfl, hol, _⟩ := h2
  have HR := hide hr
  have HC := hide hcell
  clear hr hcell h3
  generalize hN : s.fibers.length = n at *
  generalize hM : s.out.length = m at *
  have HN := hide hN
  clear hN hM
  by_cases c1 : n ≤ 5
  · by_cases c2 : m ≤ 30
    · have d1 : decide ((n : Int) ≤ 5) = true := decide_eq_true (by omega)
      have d2 : decide ((m : Int) ≤ 30) = true := decide_eq_true (by omega)
      have hr := unhide HR
      rw [decide_eq_true ⟨c1, c2⟩, Bool.true_and] at hr
      have HR2 := hide hr
      clear hr HR
      go_enter Tryz.func123, Tryz.ntmps123
      go_wp2_with (go_at_call 156; refine (ask2_ok _ _ _ _ (by simp) (by simp)).mono ?_; rintro e w' ⟨rfl, rfl⟩)
      generalize hw0 : (w.alloc (.cells #[.slice of n cf, .int .i64 s.now, .slice oo m co, vp, vh] 162)).alloc (.cells #[.bool true, .bool true] 4) = w0 at *
      have hk0 : Kept w w0 := by rw [← hw0]; exact ((Kept.refl w).alloc _).alloc _
      have HK0 := hide hk0
      clear hw0 hk0 d1 d2
      go_loopw [20] (fun s20 wr => ∃ k : Nat, k ≤ n ∧ s20 = .int .i64 k ∧ Hid (∀ i, i < k → (s.fibers.getD i Fb.zero).frames.length ≤ 6) ∧ Hid (Kept w0 wr)) (fun s20 _ => n - (intOf s20).toNat)
      case atStart => exact ⟨0, Nat.zero_le _, rfl, (fun i hi => by omega), Kept.refl _⟩
      case round =>
        obtain ⟨k, hkm, rfl, HA, HKr⟩ := hrel
        by_cases hlt : k < n
        · obtain ⟨bf, off, vf, e1, k0, k1, hfr⟩ := (unhide HC) k _ (getD_of_lt s.fibers k Fb.zero (by rw [unhide HN]; exact hlt))
          obtain ⟨ofr, cfr, rfl, hfl2, _⟩ := hfr
          subst e1
          have hk := (unhide HK0).trans (unhide HKr)
          have l0 := hk.cell k0
          have l1 := hk.cell k1
          have HKW := hide hk
          generalize hq : (s.fibers.getD k Fb.zero).frames.length = q at *
          generalize (s.fibers.getD k Fb.zero).caller = c at *
          have HQ := hide hq
          clear hk k0 k1 hq
          by_cases hq6 : q ≤ 6
          · have d1 : decide ((q : Int) ≤ 6) = true := decide_eq_true (by omega)
            go_wp2_with (go_at_call 156; refine (ask1_ok _ _ _ _ (by simp)).mono ?_; rintro e w' ⟨rfl, rfl⟩)
            go_roundw
            case rel =>
              refine ⟨k + 1, by omega, by go_num, ?_, hide (((unhide HKr).alloc _).alloc _)⟩
              intro i hi
              by_cases e : i = k
              · subst e; rw [unhide HQ]; exact hq6
              · exact (unhide HA) i (by omega)
            case measure => simp [intOf]; omega
          · have d1 : decide ((q : Int) ≤ 6) = false := decide_eq_false (by omega)
            have hrf : r = false := by
              rw [← unhide HR2]
              exact all_fails (d := Fb.zero) (i := k) (by rw [unhide HN]; exact hlt) (by rw [unhide HQ]; exact decide_eq_false hq6)
            subst hrf
            clear hq6
            go_wp2_with (go_at_call 156; refine (ask1_no _ _ _ _ (by simp)).mono ?_; rintro e w' ⟨rfl, rfl⟩; dsimp only [left])
            exact ⟨rfl, rfl, ((unhide HKW).alloc _).alloc _⟩
        · have hrt : r = true := by
            rw [← unhide HR2]
            exact all_take (d := Fb.zero) (fun i hi => decide_eq_true ((unhide HA) i (by have := unhide HN; omega)))
          subst hrt
          go_wp2
          go_end0
          exact ⟨rfl, (unhide HK0).trans (unhide HKr)⟩
    · have d1 : decide ((n : Int) ≤ 5) = true := decide_eq_true (by omega)
      have d2 : decide ((m : Int) ≤ 30) = false := decide_eq_false (by omega)
      have hr := unhide HR
      rw [decide_eq_false (fun h => c2 h.2), Bool.false_and] at hr
      subst hr
      go_enter Tryz.func123, Tryz.ntmps123
      go_wp2_with (go_at_call 156; refine (ask2_no' _ _ _ true _ (by simp) (by simp)).mono ?_; rintro e w' ⟨rfl, rfl⟩; dsimp only [left])
      exact ⟨rfl, rfl, ((Kept.refl w).alloc _).alloc _⟩
  · have d1 : decide ((n : Int) ≤ 5) = false := decide_eq_false (by omega)
    have hr := unhide HR
    rw [decide_eq_false (fun h => c1 h.1), Bool.false_and] at hr
    subst hr
    by_cases c2 : m ≤ 30
    · have d2 : decide ((m : Int) ≤ 30) = true := decide_eq_true (by omega)
      go_enter Tryz.func123, Tryz.ntmps123
      go_wp2_with (go_at_call 156; refine (ask2_no _ _ _ true _ (by simp) (by simp)).mono ?_; rintro e w' ⟨rfl, rfl⟩; dsimp only [left])
      exact ⟨rfl, rfl, ((Kept.refl w).alloc _).alloc _⟩
    · have d2 : decide ((m : Int) ≤ 30) = false := decide_eq_false (by omega)
      go_enter Tryz.func123, Tryz.ntmps123
      go_wp2_with (go_at_call 156; refine (ask2_no _ _ _ false _ (by simp) (by simp)).mono ?_; rintro e w' ⟨rfl, rfl⟩; dsimp only [left])
      exact ⟨rfl, rfl, ((Kept.refl w).alloc _).alloc _⟩
def numEnd (s : St) : Ending := if 0 < s.fibers.length then askEnd 3 (nameB s.now s.fibers.length && callersB s.fibers s.fibers.length) else left 5
theorem askNumbers_any (p : List Fn) (s : St) (v : Value) (w : World) (hj : JudgeV w v p s) (hl6 : s.fibers.length ≤ 1000) :
    Calls Tryz.prog 124 #[v] w fun e w' => e = numEnd s ∧ Kept w w' := by
  have hmn : ∀ (n : Int) (u : World), Kept w u → Calls Tryz.prog 157 #[v, .int .i64 n] u fun e w' => e = .returned (.bool (nameB n s.fibers.length)) ∧ Kept u w' := fun n u hu => mayName_any p s v n u (hj.kept hu)
  obtain ⟨vF, vO, vp, vh, rfl, h1, h2, h3, _⟩ := hj
  obtain ⟨of, cf, rfl, hfl, hcell⟩ := h1
  have HMN := hide hmn
  have HC := hide hcell
  clear hmn hcell h3 h2
  generalize hN : s.fibers.length = n at *
  have HN := hide hN
  generalize hr : numEnd s = R
  have HR := hide hr
  unfold numEnd at hr
  rw [hN] at hr
  clear hN HR
  by_cases c1 : 0 < n
  · have d1 : decide ((0 : Int) < (n : Int)) = true := decide_eq_true (by omega)
    rw [if_pos c1] at hr
    by_cases c2 : nameB s.now n = true
    · rw [c2, Bool.true_and] at hr
      have HR := hide hr
      have hm1 := (unhide HMN) s.now
      rw [c2] at hm1
      have HM1 := hide hm1
      clear hr hm1
      go_enter Tryz.func124, Tryz.ntmps124
      go_wp2_with (first | (go_at_call 156; refine (ask1_ok _ _ _ _ (by simp)).mono ?_; rintro e w' ⟨rfl, rfl⟩) | (go_at_call 157; refine ((unhide HM1) _ (by repeat (first | exact Kept.refl _ | refine Kept.alloc ?_ _))).mono ?_; rintro e w1 ⟨rfl, hk1⟩; have x0 : w1.cell? ⟨w.heap.size, 0, none⟩ = some (.slice of n cf) := hk1.cell (by simp); have x1 : w1.cell? ⟨w.heap.size, 1, none⟩ = some (.int .i64 s.now) := hk1.cell (by simp); have x2 : w1.cell? ⟨w.heap.size, 2, none⟩ = some vO := hk1.cell (by simp); have x3 : w1.cell? ⟨w.heap.size, 3, none⟩ = some vp := hk1.cell (by simp); have x4 : w1.cell? ⟨w.heap.size, 4, none⟩ = some vh := hk1.cell (by simp); have lw : w.heap.size < w1.heap.size := cell_lt x0; have HK1 : Hid (Kept w w1) := hide (Kept.trans (by repeat (first | exact Kept.refl _ | refine Kept.alloc ?_ _)) hk1); clear hk1))
      generalize hw0 : w1.alloc (.cells #[.bool true] 4) = w0 at *
      have hk0 : Kept w1 w0 := by rw [← hw0]; exact (Kept.refl w1).alloc _
      have y0 := hk0.cell x0
      have y1 := hk0.cell x1
      have y2 := hk0.cell x2
      have y3 := hk0.cell x3
      have y4 := hk0.cell x4
      have HY : Hid (∀ u, Kept w0 u → u.cell? ⟨w.heap.size, 0, none⟩ = some (.slice of n cf) ∧ u.cell? ⟨w.heap.size, 1, none⟩ = some (.int .i64 s.now) ∧ u.cell? ⟨w.heap.size, 2, none⟩ = some vO ∧ u.cell? ⟨w.heap.size, 3, none⟩ = some vp ∧ u.cell? ⟨w.heap.size, 4, none⟩ = some vh) :=
        hide (fun u hu => ⟨hu.cell y0, hu.cell y1, hu.cell y2, hu.cell y3, hu.cell y4⟩)
      have HK0 := hide ((unhide HK1).trans hk0)
      clear hw0 hk0 d1 x0 x1 x2 x3 x4 y0 y1 y2 y3 y4 lw HK1
      go_loopw [22] (fun s22 wr => ∃ k : Nat, k ≤ n ∧ s22 = .int .i64 k ∧ Hid (∀ i, i < k → nameB (s.fibers.getD i Fb.zero).caller n = true) ∧ Hid (Kept w0 wr)) (fun s22 _ => n - (intOf s22).toNat)
      case atStart => exact ⟨0, Nat.zero_le _, rfl, (fun i hi => by omega), Kept.refl _⟩
      case round =>
        obtain ⟨k, hkm, rfl, HA, HKr⟩ := hrel
        by_cases hlt : k < n
        · obtain ⟨bf, off, vf, e1, k0, k1, hfr⟩ := (unhide HC) k _ (getD_of_lt s.fibers k Fb.zero (by rw [unhide HN]; exact hlt))
          obtain ⟨ofr, cfr, rfl, _, _⟩ := hfr
          subst e1
          have hk := (unhide HK0).trans (unhide HKr)
          have l0 := hk.cell k0
          have l1 := hk.cell k1
          obtain ⟨y0, y1, y2, y3, y4⟩ := (unhide HY) _ (unhide HKr)
          have ll := cell_lt y0
          simp only at ll
          have hm2 := (unhide HMN) (s.fibers.getD k Fb.zero).caller
          have HKW := hide hk
          generalize hq : (s.fibers.getD k Fb.zero).caller = c at *
          have HQ := hide hq
          clear k0 k1 hq
          by_cases hq6 : nameB c n = true
          · rw [hq6] at hm2
            have HM2 := hide hm2
            clear hm2 hk
            go_wp2_with (first | (go_at_call 156; refine (ask1_ok _ _ _ _ (by simp)).mono ?_; rintro e w' ⟨rfl, rfl⟩) | (go_at_call 157; refine ((unhide HM2) _ (Kept.trans (unhide HKW) (by repeat (first | exact Kept.refl _ | refine Kept.alloc ?_ _)))).mono ?_; rintro e w2 ⟨rfl, hk2⟩))
            go_roundw
            case rel =>
              refine ⟨k + 1, by omega, by go_num, ?_, hide ((Kept.trans (Kept.trans (unhide HKr) (by repeat (first | exact Kept.refl _ | refine Kept.alloc ?_ _))) hk2).alloc _)⟩
              intro i hi
              by_cases e : i = k
              · subst e; rw [unhide HQ]; exact hq6
              · exact (unhide HA) i (by omega)
            case measure => simp [intOf]; omega
          · have hqf : nameB c n = false := by simpa using hq6
            rw [hqf] at hm2
            have HM2 := hide hm2
            have hrf : askEnd 3 false = R := by
              rw [← unhide HR]
              have : callersB s.fibers n = false := all_fails (d := Fb.zero) (i := k) (by rw [unhide HN]; exact hlt) (by rw [unhide HQ]; exact hqf)
              rw [this]
            subst hrf
            clear hm2 hk hq6 hqf HR
            go_wp2_with (first | (go_at_call 156; refine (ask1_no _ _ _ _ (by simp)).mono ?_; rintro e w' ⟨rfl, rfl⟩; dsimp only [left]) | (go_at_call 157; refine ((unhide HM2) _ (Kept.trans (unhide HKW) (by repeat (first | exact Kept.refl _ | refine Kept.alloc ?_ _)))).mono ?_; rintro e w2 ⟨rfl, hk2⟩))
            exact ⟨rfl, rfl, (Kept.trans (Kept.trans (unhide HKW) (by repeat (first | exact Kept.refl _ | refine Kept.alloc ?_ _))) hk2).alloc _⟩
        · have hrt : askEnd 3 true = R := by
            rw [← unhide HR]
            have : callersB s.fibers n = true := all_take (d := Fb.zero) (fun i hi => (unhide HA) i (by have := unhide HN; omega))
            rw [this]
          subst hrt
          go_wp2
          go_end0
          exact ⟨rfl, (unhide HK0).trans (unhide HKr)⟩
    · have c2f : nameB s.now n = false := by simpa using c2
      rw [c2f, Bool.false_and] at hr
      subst hr
      have hm1 := (unhide HMN) s.now
      rw [c2f] at hm1
      have HM1 := hide hm1
      clear hm1 c2 c2f
      go_enter Tryz.func124, Tryz.ntmps124
      go_wp2_with fail
      refine (ask1_ok _ _ _ _ (by simp)).mono ?_
      rintro e w' ⟨rfl, rfl⟩
      go_wp2_with fail
      refine ((unhide HM1) _ (by repeat (first | exact Kept.refl _ | refine Kept.alloc ?_ _))).mono ?_
      rintro e w1 ⟨rfl, hk1⟩
      go_wp2_with fail
      refine (ask1_no _ _ _ _ (by simp)).mono ?_
      rintro e w' ⟨rfl, rfl⟩
      dsimp only [left]
      exact ⟨rfl, rfl, (Kept.trans (by repeat (first | exact Kept.refl _ | refine Kept.alloc ?_ _)) hk1).alloc _⟩
  · have d1 : decide ((0 : Int) < (n : Int)) = false := decide_eq_false (by omega)
    rw [if_neg c1] at hr
    subst hr
    go_enter Tryz.func124, Tryz.ntmps124
    go_wp2_with (go_at_call 156; refine (ask1_no _ _ _ _ (by simp)).mono ?_; rintro e w' ⟨rfl, rfl⟩; dsimp only [left])
    exact ⟨rfl, rfl, ((Kept.refl w).alloc _).alloc _⟩
end Go.Proofs.YtokhibfenccijaaGreatDoor
