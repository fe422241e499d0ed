/-
  The program's judge: askWaiting.
  The contract of the reference's fresh.
  The contract of the reference's fiberFine.
  A drawn region, taken by hand: the operation is read off the list, so that it stands written out.
-/
import Derived.Test.YtgdcecibfoganabDoorSC17
import Derived.Deep.RegionHeld2
import Derived.Deep.RegionHeld3
import Derived.Deep.DeepCutAuto

namespace Go.Proofs.YtgdcecibfoganabDoor
open Go.RowKit

theorem cell_at {w : World} {b : Nat} {c : Array Value} {t : TypeId} {fr : Nat × Nat} (h : w.heap[b]? = some (.cells c t fr)) {i : Nat} {v : Value} (hv : c[i]? = some v) : w.cell? ⟨b, i, none⟩ = some v := (cell_lays h i).trans hv

/-- Where there is nothing left to show, what follows may be anything. -/
theorem viaK {K : Act → World → Prop} {R : Act → World → Prop} {S : World → Prop} (_ : Shut (∀ a w, S w → (S w → R a w) → K a w)) (hF : False) (a : Act) (w : World) {G : Prop} (_ : K a w) : G := hF.elim

set_option maxHeartbeats 8000000 in
set_option maxRecDepth 100000 in
theorem askWaiting_bad (n cap i ns cs b o : Nat) (vF vO vh vl : Value) (os : Option Addr) (now at_ h k1 a1 : Int) (w : World) (hb : -1000 ≤ h ∧ h ≤ 1000) (_hns : ns ≤ 17592186043904)
    (hh : ∀ u, Kept w u → Calls Tryd.prog 89 #[.agg #[vF, .int .i64 now, vO, .slice (some ⟨b, o, none⟩) n cap, vh], .agg #[.int .i64 i, .int .i64 at_, vl, .slice os ns cs]] u fun e u' => e = .returned (.int .i64 h) ∧ Kept u u')
    (hno : ¬ (0 < at_ ∧ (ns : Int) = h - 1)) :
    Calls Tryd.prog 91 #[.agg #[vF, .int .i64 now, vO, .slice (some ⟨b, o, none⟩) n cap, vh], .agg #[.int .i64 i, .int .i64 at_, vl, .slice os ns cs], .agg #[.int .i64 k1, .int .i64 a1]] w fun e w' => e = left 1 ∧ Kept w w' := by
  obtain ⟨hb1, hb2⟩ := hb
  have hwr : IntKind.i64.wrap (h - 1) = h - 1 := wrap_tiny _ (by omega) (by omega)
  have HHH := hide hh
  clear hh
  go_enter Tryd.func91, Tryd.ntmps91
  go_wp2
  generalize hw0 : ((w.alloc (.cells #[vF, .int .i64 now, vO, .slice (some ⟨b, o, none⟩) n cap, vh] 102)).alloc (.cells #[.int .i64 i, .int .i64 at_, vl, .slice os ns cs] 76)).alloc (.cells #[.int .i64 k1, .int .i64 a1] 38) = w0 at *
  have hk0 : Kept w w0 := by rw [← hw0]; exact (((Kept.refl w).alloc _).alloc _).alloc _
  generalize hB0 : w.heap.size = B0 at *
  generalize hB1 : B0 + 1 = B1 at *
  have HY : Hid (∀ u, Kept w0 u → u.cell? ⟨B0, 0, none⟩ = some vF ∧ u.cell? ⟨B0, 1, none⟩ = some (.int .i64 now) ∧ u.cell? ⟨B0, 2, none⟩ = some vO ∧ u.cell? ⟨B0, 3, none⟩ = some (.slice (some ⟨b, o, none⟩) n cap) ∧ u.cell? ⟨B0, 4, none⟩ = some vh ∧ u.cell? ⟨B1, 0, none⟩ = some (.int .i64 i) ∧ u.cell? ⟨B1, 1, none⟩ = some (.int .i64 at_) ∧ u.cell? ⟨B1, 2, none⟩ = some vl ∧ u.cell? ⟨B1, 3, none⟩ = some (.slice os ns cs)) := by
    have q : w0.cell? ⟨B0, 0, none⟩ = some vF ∧ w0.cell? ⟨B0, 1, none⟩ = some (.int .i64 now) ∧ w0.cell? ⟨B0, 2, none⟩ = some vO ∧ w0.cell? ⟨B0, 3, none⟩ = some (.slice (some ⟨b, o, none⟩) n cap) ∧ w0.cell? ⟨B0, 4, none⟩ = some vh ∧ w0.cell? ⟨B1, 0, none⟩ = some (.int .i64 i) ∧ w0.cell? ⟨B1, 1, none⟩ = some (.int .i64 at_) ∧ w0.cell? ⟨B1, 2, none⟩ = some vl ∧ w0.cell? ⟨B1, 3, none⟩ = some (.slice os ns cs) := by
      have L0 : w0.heap[B0]? = some (.cells #[vF, .int .i64 now, vO, .slice (some ⟨b, o, none⟩) n cap, vh] 102) := by
        rw [← hw0]; exact lays_alloc (lays_alloc (lays_new hB0) _) _
      have L1 : w0.heap[B1]? = some (.cells #[.int .i64 i, .int .i64 at_, vl, .slice os ns cs] 76) := by
        rw [← hw0]; exact lays_alloc (lays_new (by simp [hB0, hB1])) _
      exact ⟨cell_at L0 rfl, cell_at L0 rfl, cell_at L0 rfl, cell_at L0 rfl, cell_at L0 rfl, cell_at L1 rfl, cell_at L1 rfl, cell_at L1 rfl, cell_at L1 rfl⟩
    obtain ⟨q0, q1, q2, q3, q4, q5, q6, q7, q8⟩ := q
    exact hide (fun u hu => ⟨hu.cell q0, hu.cell q1, hu.cell q2, hu.cell q3, hu.cell q4, hu.cell q5, hu.cell q6, hu.cell q7, hu.cell q8⟩)
  have HH := hide (show ∀ u, Kept w0 u → _ from fun u hu => (unhide HHH) u (hk0.trans hu))
  have HK0 := hide hk0
  clear hw0 hk0 HHH hB0 hB1
  by_cases h1 : 0 < at_
  · have h2 : ¬ (ns : Int) = h - 1 := fun e => hno ⟨h1, e⟩
    have hb : ((ns : Int) == h - 1) = false := by rw [beq_eq_false_iff_ne]; exact h2
    have hd : decide (0 < at_) = true := decide_eq_true h1
    clear hno h2
    go_region_held2 (fun u => u.cell? ⟨B0, 0, none⟩ = some vF ∧ u.cell? ⟨B0, 1, none⟩ = some (.int .i64 now) ∧ u.cell? ⟨B0, 2, none⟩ = some vO ∧ u.cell? ⟨B0, 3, none⟩ = some (.slice (some ⟨b, o, none⟩) n cap) ∧ u.cell? ⟨B0, 4, none⟩ = some vh ∧ u.cell? ⟨B1, 0, none⟩ = some (.int .i64 i) ∧ u.cell? ⟨B1, 1, none⟩ = some (.int .i64 at_) ∧ u.cell? ⟨B1, 2, none⟩ = some vl ∧ u.cell? ⟨B1, 3, none⟩ = some (.slice os ns cs))
      (first | exact hF.elim | exact (unhide HY) _ (Kept.trans (Kept.trans (by repeat (first | exact Kept.refl _ | refine Kept.drew ?_ | refine Kept.alloc ?_ _)) hkA) (by repeat (first | exact Kept.refl _ | refine Kept.drew ?_ | refine Kept.alloc ?_ _))) | exact (unhide HY) _ (by repeat (first | exact Kept.refl _ | refine Kept.drew ?_ | refine Kept.alloc ?_ _)))
      (first | (go_at_call 89; refine ((unhide HH) _ (by repeat (first | exact Kept.refl _ | refine Kept.drew ?_ | refine Kept.alloc ?_ _))).mono ?_; rintro e wA ⟨rfl, hkA⟩) | (go_at_call 86; refine (ask2_no' _ _ _ true _ (by simp) (by simp)).mono ?_; rintro e wC ⟨rfl, rfl⟩; dsimp only [left]; refine (Classical.em False).elim (fun hF => ?_) (fun _ => ⟨rfl, rfl, Kept.trans (unhide HK0) (Kept.trans (Kept.trans (by repeat (first | exact Kept.refl _ | refine Kept.drew ?_ | refine Kept.alloc ?_ _)) hkA) (by repeat (first | exact Kept.refl _ | refine Kept.drew ?_ | refine Kept.alloc ?_ _)))⟩); refine viaK ‹Shut _› hF ⟨#[], []⟩ w0 ?_))
    all_goals exact hF.elim
  · have hd : decide (0 < at_) = false := decide_eq_false h1
    clear hno h1
    by_cases h2 : (ns : Int) = h - 1
    · have hb : ((ns : Int) == h - 1) = true := by rw [beq_iff_eq]; exact h2
      clear h2
      go_region_held2 (fun u => u.cell? ⟨B0, 0, none⟩ = some vF ∧ u.cell? ⟨B0, 1, none⟩ = some (.int .i64 now) ∧ u.cell? ⟨B0, 2, none⟩ = some vO ∧ u.cell? ⟨B0, 3, none⟩ = some (.slice (some ⟨b, o, none⟩) n cap) ∧ u.cell? ⟨B0, 4, none⟩ = some vh ∧ u.cell? ⟨B1, 0, none⟩ = some (.int .i64 i) ∧ u.cell? ⟨B1, 1, none⟩ = some (.int .i64 at_) ∧ u.cell? ⟨B1, 2, none⟩ = some vl ∧ u.cell? ⟨B1, 3, none⟩ = some (.slice os ns cs))
        (first | exact hF.elim | exact (unhide HY) _ (Kept.trans (Kept.trans (by repeat (first | exact Kept.refl _ | refine Kept.drew ?_ | refine Kept.alloc ?_ _)) hkA) (by repeat (first | exact Kept.refl _ | refine Kept.drew ?_ | refine Kept.alloc ?_ _))) | exact (unhide HY) _ (by repeat (first | exact Kept.refl _ | refine Kept.drew ?_ | refine Kept.alloc ?_ _)))
        (first | (go_at_call 89; refine ((unhide HH) _ (by repeat (first | exact Kept.refl _ | refine Kept.drew ?_ | refine Kept.alloc ?_ _))).mono ?_; rintro e wA ⟨rfl, hkA⟩) | (go_at_call 86; refine (ask2_no _ _ _ true _ (by simp) (by simp)).mono ?_; rintro e wC ⟨rfl, rfl⟩; dsimp only [left]; refine (Classical.em False).elim (fun hF => ?_) (fun _ => ⟨rfl, rfl, Kept.trans (unhide HK0) (Kept.trans (Kept.trans (by repeat (first | exact Kept.refl _ | refine Kept.drew ?_ | refine Kept.alloc ?_ _)) hkA) (by repeat (first | exact Kept.refl _ | refine Kept.drew ?_ | refine Kept.alloc ?_ _)))⟩); refine viaK ‹Shut _› hF ⟨#[], []⟩ w0 ?_))
      all_goals exact hF.elim
    · have hb : ((ns : Int) == h - 1) = false := by rw [beq_eq_false_iff_ne]; exact h2
      clear h2
      go_region_held2 (fun u => u.cell? ⟨B0, 0, none⟩ = some vF ∧ u.cell? ⟨B0, 1, none⟩ = some (.int .i64 now) ∧ u.cell? ⟨B0, 2, none⟩ = some vO ∧ u.cell? ⟨B0, 3, none⟩ = some (.slice (some ⟨b, o, none⟩) n cap) ∧ u.cell? ⟨B0, 4, none⟩ = some vh ∧ u.cell? ⟨B1, 0, none⟩ = some (.int .i64 i) ∧ u.cell? ⟨B1, 1, none⟩ = some (.int .i64 at_) ∧ u.cell? ⟨B1, 2, none⟩ = some vl ∧ u.cell? ⟨B1, 3, none⟩ = some (.slice os ns cs))
        (first | exact hF.elim | exact (unhide HY) _ (Kept.trans (Kept.trans (by repeat (first | exact Kept.refl _ | refine Kept.drew ?_ | refine Kept.alloc ?_ _)) hkA) (by repeat (first | exact Kept.refl _ | refine Kept.drew ?_ | refine Kept.alloc ?_ _))) | exact (unhide HY) _ (by repeat (first | exact Kept.refl _ | refine Kept.drew ?_ | refine Kept.alloc ?_ _)))
        (first | (go_at_call 89; refine ((unhide HH) _ (by repeat (first | exact Kept.refl _ | refine Kept.drew ?_ | refine Kept.alloc ?_ _))).mono ?_; rintro e wA ⟨rfl, hkA⟩) | (go_at_call 86; refine (ask2_no _ _ _ false _ (by simp) (by simp)).mono ?_; rintro e wC ⟨rfl, rfl⟩; dsimp only [left]; refine (Classical.em False).elim (fun hF => ?_) (fun _ => ⟨rfl, rfl, Kept.trans (unhide HK0) (Kept.trans (Kept.trans (by repeat (first | exact Kept.refl _ | refine Kept.drew ?_ | refine Kept.alloc ?_ _)) hkA) (by repeat (first | exact Kept.refl _ | refine Kept.drew ?_ | refine Kept.alloc ?_ _)))⟩); refine viaK ‹Shut _› hF ⟨#[], []⟩ w0 ?_))
      all_goals exact hF.elim

set_option maxHeartbeats 8000000 in
set_option maxRecDepth 100000 in
theorem askWaiting_good (n cap i ns cs b o bc co m cc a : Nat) (vF vO vh vl : Value) (os : Option Addr) (now h k1 a1 : Int) (x : Int × Int) (w : World) (hb : -1000 ≤ h ∧ h ≤ 1000) (_hns : ns ≤ 17592186043904)
    (hh : ∀ u, Kept w u → Calls Tryd.prog 89 #[.agg #[vF, .int .i64 now, vO, .slice (some ⟨b, o, none⟩) n cap, vh], .agg #[.int .i64 i, .int .i64 ((a : Int) + 1), vl, .slice os ns cs]] u fun e u' => e = .returned (.int .i64 h) ∧ Kept u u')
    (hi : i < n) (ha : a + 1 < m) (hm : m ≤ 8796093022208) (hz : (ns : Int) = h - 1) (c2 : w.cell? ⟨b, o + i * 3 + 2, none⟩ = some (.slice (some ⟨bc, co, none⟩) m cc))
    (e0 : w.cell? ⟨bc, co + a * 2, none⟩ = some (.int .i64 x.1)) (e1 : w.cell? ⟨bc, co + a * 2 + 1, none⟩ = some (.int .i64 x.2)) (r : Bool) (hr : decide (x = (k1, a1)) = r) :
    Calls Tryd.prog 91 #[.agg #[vF, .int .i64 now, vO, .slice (some ⟨b, o, none⟩) n cap, vh], .agg #[.int .i64 i, .int .i64 ((a : Int) + 1), vl, .slice os ns cs], .agg #[.int .i64 k1, .int .i64 a1]] w fun e w' => e = askEnd 1 r ∧ Kept w w' := by
  obtain ⟨hb1, hb2⟩ := hb
  have hwa : IntKind.i64.wrap (a : Int) = a := wrap_tiny _ (by omega) (by omega)
  have hi1 : (i : Int) < (n : Int) := by omega
  have hi0 : (0 : Int) ≤ (i : Int) := by omega
  have ha1 : (a : Int) < (m : Int) := by omega
  have ha0 : (0 : Int) ≤ (a : Int) := by omega
  have hap : (a : Int) + 1 - 1 = a := by omega
  have hd : decide (0 < (a : Int) + 1) = true := decide_eq_true (by omega)
  have hzb : ((ns : Int) == h - 1) = true := by rw [beq_iff_eq]; exact hz
  have hwr : IntKind.i64.wrap (h - 1) = h - 1 := wrap_tiny _ (by omega) (by omega)
  have HHH := hide hh
  clear hh
  go_enter Tryd.func91, Tryd.ntmps91
  go_wp2
  generalize hw0 : ((w.alloc (.cells #[vF, .int .i64 now, vO, .slice (some ⟨b, o, none⟩) n cap, vh] 102)).alloc (.cells #[.int .i64 i, .int .i64 ((a : Int) + 1), vl, .slice os ns cs] 76)).alloc (.cells #[.int .i64 k1, .int .i64 a1] 38) = w0 at *
  have hk0 : Kept w w0 := by rw [← hw0]; exact (((Kept.refl w).alloc _).alloc _).alloc _
  generalize hB0 : w.heap.size = B0 at *
  generalize hB1 : B0 + 1 = B1 at *
  have HY : Hid (∀ u, Kept w0 u → u.cell? ⟨B0, 0, none⟩ = some vF ∧ u.cell? ⟨B0, 1, none⟩ = some (.int .i64 now) ∧ u.cell? ⟨B0, 2, none⟩ = some vO ∧ u.cell? ⟨B0, 3, none⟩ = some (.slice (some ⟨b, o, none⟩) n cap) ∧ u.cell? ⟨B0, 4, none⟩ = some vh ∧ u.cell? ⟨B1, 0, none⟩ = some (.int .i64 i) ∧ u.cell? ⟨B1, 1, none⟩ = some (.int .i64 ((a : Int) + 1)) ∧ u.cell? ⟨B1, 2, none⟩ = some vl ∧ u.cell? ⟨B1, 3, none⟩ = some (.slice os ns cs)) := by
    have q : w0.cell? ⟨B0, 0, none⟩ = some vF ∧ w0.cell? ⟨B0, 1, none⟩ = some (.int .i64 now) ∧ w0.cell? ⟨B0, 2, none⟩ = some vO ∧ w0.cell? ⟨B0, 3, none⟩ = some (.slice (some ⟨b, o, none⟩) n cap) ∧ w0.cell? ⟨B0, 4, none⟩ = some vh ∧ w0.cell? ⟨B1, 0, none⟩ = some (.int .i64 i) ∧ w0.cell? ⟨B1, 1, none⟩ = some (.int .i64 ((a : Int) + 1)) ∧ w0.cell? ⟨B1, 2, none⟩ = some vl ∧ w0.cell? ⟨B1, 3, none⟩ = some (.slice os ns cs) := by
      have L0 : w0.heap[B0]? = some (.cells #[vF, .int .i64 now, vO, .slice (some ⟨b, o, none⟩) n cap, vh] 102) := by
        rw [← hw0]; exact lays_alloc (lays_alloc (lays_new hB0) _) _
      have L1 : w0.heap[B1]? = some (.cells #[.int .i64 i, .int .i64 ((a : Int) + 1), vl, .slice os ns cs] 76) := by
        rw [← hw0]; exact lays_alloc (lays_new (by simp [hB0, hB1])) _
      exact ⟨cell_at L0 rfl, cell_at L0 rfl, cell_at L0 rfl, cell_at L0 rfl, cell_at L0 rfl, cell_at L1 rfl, cell_at L1 rfl, cell_at L1 rfl, cell_at L1 rfl⟩
    obtain ⟨q0, q1, q2, q3, q4, q5, q6, q7, q8⟩ := q
    exact hide (fun u hu => ⟨hu.cell q0, hu.cell q1, hu.cell q2, hu.cell q3, hu.cell q4, hu.cell q5, hu.cell q6, hu.cell q7, hu.cell q8⟩)
  have HY2 : Hid (∀ u, Kept w0 u → u.cell? ⟨B0, 3, none⟩ = some (.slice (some ⟨b, o, none⟩) n cap) ∧ u.cell? ⟨B1, 0, none⟩ = some (.int .i64 i) ∧ u.cell? ⟨B1, 1, none⟩ = some (.int .i64 ((a : Int) + 1)) ∧ u.cell? ⟨B1 + 1, 0, none⟩ = some (.int .i64 k1) ∧ u.cell? ⟨B1 + 1, 1, none⟩ = some (.int .i64 a1) ∧ u.cell? ⟨b, o + i * 3 + 2, none⟩ = some (.slice (some ⟨bc, co, none⟩) m cc) ∧ u.cell? ⟨bc, co + a * 2, none⟩ = some (.int .i64 x.1) ∧ u.cell? ⟨bc, co + a * 2 + 1, none⟩ = some (.int .i64 x.2)) := by
    have L2 : w0.heap[B1 + 1]? = some (.cells #[.int .i64 k1, .int .i64 a1] 38) := by
      rw [← hw0]; exact lays_new (by simp [hB0, hB1])
    exact hide (fun u hu => by
      obtain ⟨_, _, _, r3, _, r5, r6, _, _⟩ := (unhide HY) u hu
      exact ⟨r3, r5, r6, hu.cell (cell_at L2 rfl), hu.cell (cell_at L2 rfl), (hk0.trans hu).cell c2, (hk0.trans hu).cell e0, (hk0.trans hu).cell e1⟩)
  have HH := hide (show ∀ u, Kept w0 u → _ from fun u hu => (unhide HHH) u (hk0.trans hu))
  have HK0 := hide hk0
  clear hw0 hk0 HHH hB0 hB1 c2 e0 e1 hz
  go_region_held3 (fun u => u.cell? ⟨B0, 0, none⟩ = some vF ∧ u.cell? ⟨B0, 1, none⟩ = some (.int .i64 now) ∧ u.cell? ⟨B0, 2, none⟩ = some vO ∧ u.cell? ⟨B0, 3, none⟩ = some (.slice (some ⟨b, o, none⟩) n cap) ∧ u.cell? ⟨B0, 4, none⟩ = some vh ∧ u.cell? ⟨B1, 0, none⟩ = some (.int .i64 i) ∧ u.cell? ⟨B1, 1, none⟩ = some (.int .i64 ((a : Int) + 1)) ∧ u.cell? ⟨B1, 2, none⟩ = some vl ∧ u.cell? ⟨B1, 3, none⟩ = some (.slice os ns cs))
    (first | exact (unhide HY) _ (Kept.trans (Kept.trans (by repeat (first | exact Kept.refl _ | refine Kept.drew ?_ | refine Kept.alloc ?_ _)) hkA) (by repeat (first | exact Kept.refl _ | refine Kept.drew ?_ | refine Kept.alloc ?_ _))) | exact (unhide HY) _ (by repeat (first | exact Kept.refl _ | refine Kept.drew ?_ | refine Kept.alloc ?_ _)))
    (first | (go_at_call 89; refine ((unhide HH) _ (by repeat (first | exact Kept.refl _ | refine Kept.drew ?_ | refine Kept.alloc ?_ _))).mono ?_; rintro e wA ⟨rfl, hkA⟩) | (go_at_call 86; refine (ask2_ok _ _ _ _ (by simp) (by simp)).mono ?_; rintro e wC ⟨rfl, rfl⟩))
  all_goals go_wp2_with fail
  have hkA2 : Kept w0 (wA.alloc (.cells #[.bool true, .bool true] 4)) := Kept.trans (Kept.trans (by repeat (first | exact Kept.refl _ | refine Kept.drew ?_ | refine Kept.alloc ?_ _)) hkA) (by repeat (first | exact Kept.refl _ | refine Kept.drew ?_ | refine Kept.alloc ?_ _))
  generalize hwz : wA.alloc (.cells #[.bool true, .bool true] 4) = wz at *
  have HY2 := hide (show ∀ u, Kept wz u → _ from fun u hu => (unhide HY2) u (hkA2.trans hu))
  have HKA := hide ((unhide HK0).trans hkA2)
  have HR := hide hr
  obtain ⟨x1, x2⟩ := x
  simp only at HY2
  clear hwz hkA2 hkA HK0 HY HH hr
  by_cases hx1 : x1 = k1
  · subst hx1
    by_cases hx2 : x2 = a1
    · subst hx2
      go_region_held2 (fun u => u.cell? ⟨B0, 3, none⟩ = some (.slice (some ⟨b, o, none⟩) n cap) ∧ u.cell? ⟨B1, 0, none⟩ = some (.int .i64 i) ∧ u.cell? ⟨B1, 1, none⟩ = some (.int .i64 ((a : Int) + 1)) ∧ u.cell? ⟨B1 + 1, 0, none⟩ = some (.int .i64 x1) ∧ u.cell? ⟨B1 + 1, 1, none⟩ = some (.int .i64 x2) ∧ u.cell? ⟨b, o + i * 3 + 2, none⟩ = some (.slice (some ⟨bc, co, none⟩) m cc) ∧ u.cell? ⟨bc, co + a * 2, none⟩ = some (.int .i64 x1) ∧ u.cell? ⟨bc, co + a * 2 + 1, none⟩ = some (.int .i64 x2))
        (exact (unhide HY2) _ (by repeat (first | exact Kept.refl _ | refine Kept.drew ?_ | refine Kept.alloc ?_ _)))
        (first | (go_at_call 86; refine (ask1_ok _ _ _ _ (by simp)).mono ?_; rintro e wC ⟨rfl, rfl⟩))
      have hrt : r = true := by rw [← unhide HR]; simp
      subst hrt
      all_goals go_end0
      all_goals exact ⟨rfl, ((unhide HKA).alloc _).drew⟩
    · have hb : (x2 == a1) = false := by rw [beq_eq_false_iff_ne]; exact hx2
      have hrf : r = false := by rw [← unhide HR]; exact decide_eq_false (fun e => hx2 (congrArg Prod.snd e))
      subst hrf
      clear hx2
      go_region_held2 (fun u => u.cell? ⟨B0, 3, none⟩ = some (.slice (some ⟨b, o, none⟩) n cap) ∧ u.cell? ⟨B1, 0, none⟩ = some (.int .i64 i) ∧ u.cell? ⟨B1, 1, none⟩ = some (.int .i64 ((a : Int) + 1)) ∧ u.cell? ⟨B1 + 1, 0, none⟩ = some (.int .i64 x1) ∧ u.cell? ⟨B1 + 1, 1, none⟩ = some (.int .i64 a1) ∧ u.cell? ⟨b, o + i * 3 + 2, none⟩ = some (.slice (some ⟨bc, co, none⟩) m cc) ∧ u.cell? ⟨bc, co + a * 2, none⟩ = some (.int .i64 x1) ∧ u.cell? ⟨bc, co + a * 2 + 1, none⟩ = some (.int .i64 x2))
        (first | exact hF.elim | exact (unhide HY2) _ (by repeat (first | exact Kept.refl _ | refine Kept.drew ?_ | refine Kept.alloc ?_ _)))
        (first | (go_at_call 86; refine (ask1_no _ _ _ _ (by simp)).mono ?_; rintro e wC ⟨rfl, rfl⟩; dsimp only [left]; refine (Classical.em False).elim (fun hF => ?_) (fun _ => ⟨rfl, rfl, Kept.trans (unhide HKA) (by repeat (first | exact Kept.refl _ | refine Kept.drew ?_ | refine Kept.alloc ?_ _))⟩); refine viaK ‹Shut _› hF ⟨#[], []⟩ w0 ?_))
      all_goals exact hF.elim
  · have hb : (x1 == k1) = false := by rw [beq_eq_false_iff_ne]; exact hx1
    have hrf : r = false := by rw [← unhide HR]; exact decide_eq_false (fun e => hx1 (congrArg Prod.fst e))
    subst hrf
    clear hx1
    go_region_held2 (fun u => u.cell? ⟨B0, 3, none⟩ = some (.slice (some ⟨b, o, none⟩) n cap) ∧ u.cell? ⟨B1, 0, none⟩ = some (.int .i64 i) ∧ u.cell? ⟨B1, 1, none⟩ = some (.int .i64 ((a : Int) + 1)) ∧ u.cell? ⟨B1 + 1, 0, none⟩ = some (.int .i64 k1) ∧ u.cell? ⟨B1 + 1, 1, none⟩ = some (.int .i64 a1) ∧ u.cell? ⟨b, o + i * 3 + 2, none⟩ = some (.slice (some ⟨bc, co, none⟩) m cc) ∧ u.cell? ⟨bc, co + a * 2, none⟩ = some (.int .i64 x1) ∧ u.cell? ⟨bc, co + a * 2 + 1, none⟩ = some (.int .i64 x2))
      (first | exact hF.elim | exact (unhide HY2) _ (by repeat (first | exact Kept.refl _ | refine Kept.drew ?_ | refine Kept.alloc ?_ _)))
      (first | (go_at_call 86; refine (ask1_no _ _ _ _ (by simp)).mono ?_; rintro e wC ⟨rfl, rfl⟩; dsimp only [left]; refine (Classical.em False).elim (fun hF => ?_) (fun _ => ⟨rfl, rfl, Kept.trans (unhide HKA) (by repeat (first | exact Kept.refl _ | refine Kept.drew ?_ | refine Kept.alloc ?_ _))⟩); refine viaK ‹Shut _› hF ⟨#[], []⟩ w0 ?_))
    all_goals exact hF.elim

theorem askWaiting_any (p : List Fn) (s : St) (v u : Value) (x : Fr) (k1 a1 : Int) (w : World) (hj : JudgeV w v p s) (hx : FrV w u x) (hl : HLen p) (hin : InFrame p x) (hb : ∀ k a, k < p.length → -1000 ≤ (hgt p k).getD a 0 ∧ (hgt p k).getD a 0 ≤ 1000) :
    Calls Tryd.prog 91 #[v, u, .agg #[.int .i64 k1, .int .i64 a1]] w fun e w' => e = askEnd 1 (jwaitB p x (k1, a1)) ∧ Kept w w' := by
  have hh : ∀ y, Kept w y → Calls Tryd.prog 89 #[v, u] y fun e w' => e = .returned (.int .i64 (hAt p x)) ∧ Kept y w' := fun y hy => height_any p s v u x y (hj.kept hy) (hx.kept hy) hl hin
  obtain ⟨vF, vO, vp, vh, rfl, _, _, h3, _⟩ := hj
  obtain ⟨vl, vs, rfl, _, h5⟩ := hx
  obtain ⟨os, cs, rfl, hs, _⟩ := h5
  obtain ⟨oa, cap, rfl, hpl, hpc⟩ := id h3
  obtain ⟨f0, f1, a0, at1⟩ := hin
  obtain ⟨i, hi⟩ : ∃ i : Nat, x.fn = i := ⟨x.fn.toNat, by omega⟩
  have hip : i < p.length := by omega
  rw [hi, Int.toNat_natCast] at at1
  obtain ⟨b, o, cv, rfl, c0, c1, c2, hc⟩ := hpc i _ (getD_of_lt p i Fn.zero hip)
  obtain ⟨oc, cc, rfl, hm, hcc⟩ := hc
  have hbd : -1000 ≤ hAt p x ∧ hAt p x ≤ 1000 := by
    unfold hAt; rw [hi, Int.toNat_natCast]; exact hb i _ hip
  rw [hi] at hh ⊢
  by_cases hno : 0 < x.at_ ∧ (x.stack.length : Int) = hAt p x - 1
  · obtain ⟨a, ha⟩ : ∃ a : Nat, x.at_ = (a : Int) + 1 := ⟨x.at_.toNat - 1, by omega⟩
    have hlt : a < (codeOf p i).length := by omega
    obtain ⟨bc, co, rfl, k0, kk1⟩ := hcc a _ (getD_of_lt (codeOf p i) a (0, 0) hlt)
    rw [ha] at hh ⊢
    refine askWaiting_good _ cap i _ cs b o bc co _ cc a vF vO vh vl os s.now (hAt p x) k1 a1 ((codeOf p i).getD a (0, 0)) w hbd hs hh hip (by unfold codeOf at at1; omega) hm hno.2 c2 k0 kk1 _ ?_
    unfold jwaitB opAhead
    rw [hi, ha, Int.toNat_natCast, show ((a : Int) + 1).toNat - 1 = a by omega, decide_eq_true (by omega : 0 < (a : Int) + 1), decide_eq_true hno.2]
    rfl
  · have hf : jwaitB p x (k1, a1) = false := by
      unfold jwaitB
      rw [Bool.and_eq_false_iff]
      left
      rw [Bool.and_eq_false_iff]
      by_cases h1 : 0 < x.at_
      · right; exact decide_eq_false (fun e => hno ⟨h1, e⟩)
      · left; exact decide_eq_false h1
    rw [hf]
    exact askWaiting_bad _ cap i _ cs b o vF vO vh vl os s.now x.at_ (hAt p x) k1 a1 w hbd hs hh hno
end Go.Proofs.YtgdcecibfoganabDoor

namespace Go.Proofs.YtgdcecibfoganabDoor
open Go.RowKit

set_option maxHeartbeats 4000000 in
set_option maxRecDepth 100000 in
theorem fresh_many (vp : Value) (of : Option Addr) (n cf : Nat) (ca : Int) (w : World) (hn : ((n : Int) != 1) = true) :
    Calls Tryd.prog 73 #[vp, .agg #[.slice of n cf, .int .i64 ca]] w fun e w' => e = .returned (.bool false) ∧ Kept w w' := by
  go_enter Tryd.func73, Tryd.ntmps73
  go_wp2
  go_ret
  exact ⟨rfl, (Kept.refl w).alloc _⟩

set_option maxHeartbeats 4000000 in
set_option maxRecDepth 100000 in
theorem fresh_one (b o bf off cf n cap i ns cs cl : Nat) (ol os : Option Addr) (at_ ar ca : Int) (l : List Int) (w : World) (hi : i < n)
    (c0 : w.cell? ⟨b, o + i * 3, none⟩ = some (.int .i64 ar)) (k0 : w.cell? ⟨bf, off, none⟩ = some (.int .i64 i)) (k1 : w.cell? ⟨bf, off + 1, none⟩ = some (.int .i64 at_))
    (k2 : w.cell? ⟨bf, off + 2, none⟩ = some (.slice ol l.length cl)) (k3 : w.cell? ⟨bf, off + 3, none⟩ = some (.slice os ns cs)) (hl : IntsW w (.slice ol l.length cl) l) (r : Bool)
    (hr : ((decide (at_ = 0) && (decide (ar = 1) && decide (ns = 0))) && zerosB l) = r) :
    Calls Tryd.prog 73 #[.slice (some ⟨b, o, none⟩) n cap, .agg #[.slice (some ⟨bf, off, none⟩) 1 cf, .int .i64 ca]] w fun e w' => e = .returned (.bool r) ∧ Kept w w' := by
  have HR := hide hr
  have HL := hide hl
  clear hr hl
  have hi1 : (i : Int) < (n : Int) := by omega
  have hi0 : (0 : Int) ≤ (i : Int) := by omega
  have lb := cell_lt c0
  have lf := cell_lt k0
  simp only at lb lf
  by_cases ha : at_ = 0
  · subst ha
    by_cases har : ar = 1
    · subst har
      by_cases hs : ns = 0
      · subst hs
        have HK2 := hide k2
        go_enter Tryd.func73, Tryd.ntmps73
        go_wp2
        generalize hw0 : w.alloc (.cells #[.slice (some ⟨bf, off, none⟩) 1 cf, .int .i64 ca] 79) = w0 at *
        have hk0 : Kept w w0 := by rw [← hw0]; exact (Kept.refl w).alloc _
        have x0 : w0.cell? ⟨w.heap.size, 0, none⟩ = some (.slice (some ⟨bf, off, none⟩) 1 cf) := by rw [← hw0]; simp
        have x2 := hk0.cell (unhide HK2)
        have HK0 := hide hk0
        clear hw0 hk0 HK2 c0 k0 k1 k2 k3
        go_loopw [5] (fun s5 wr => ∃ k : Nat, k ≤ l.length ∧ s5 = .int .i64 k ∧ Hid (∀ i, i < k → l.getD i 0 = 0) ∧ Hid (w0 = wr)) (fun s5 _ => l.length - (intOf s5).toNat)
        case atStart => exact ⟨0, Nat.zero_le _, rfl, (fun i hi => by omega), rfl⟩
        case round =>
          obtain ⟨k, hkm, rfl, HA, HW⟩ := hrel
          have hw := unhide HW
          subst hw
          clear HW
          by_cases hlt : k < l.length
          · obtain ⟨oa, ca', e1, _, hcell⟩ := unhide HL
            obtain ⟨b1, o1, e2, c1⟩ := hcell k _ (getD_of_lt l k 0 hlt)
            obtain ⟨rfl, -, -⟩ := (by simpa using e1 : ol = oa ∧ l.length = l.length ∧ cl = ca')
            have d1 := (unhide HK0).cell c1
            subst e2
            clear c1 hcell e1
            have HZI := hide (getD_of_lt l k 0 hlt)
            generalize hz1 : l.getD k 0 = z at *
            have Z1 := hide hz1
            clear hz1
            by_cases hz : z = 0
            · subst hz
              go_wp2
              go_roundw
              case rel =>
                refine ⟨k + 1, by omega, by go_num, ?_, trivial⟩
                intro i hi
                by_cases e : i = k
                · subst e; exact unhide Z1
                · exact (unhide HA) i (by omega)
              case measure => simp [intOf]; omega
            · have hzb : (z != 0) = true := by rw [bne_iff_ne]; exact hz
              have HZ := hide hz
              clear hz
              go_wp2
              go_ret
              refine ⟨?_, unhide HK0⟩
              have hf : zerosB l = false := by
                unfold zerosB
                rw [Bool.eq_false_iff]
                intro h
                rw [List.all_eq_true] at h
                have := h z (List.mem_of_getElem? (unhide HZI))
                exact (unhide HZ) (by simpa using this)
              have hr := unhide HR
              rw [hf, Bool.and_false] at hr
              rw [← hr]; rfl
          · go_wp2
            go_ret
            refine ⟨?_, unhide HK0⟩
            have hf : zerosB l = true := by
              unfold zerosB
              rw [List.all_eq_true]
              intro z hz
              obtain ⟨i, hi, rfl⟩ := List.getElem_of_mem hz
              have := (unhide HA) i (by omega)
              simpa [List.getD, hi] using this
            have hr := unhide HR
            rw [hf] at hr
            rw [← hr]; rfl
      · have hsb : ((ns : Int) != 0) = true := by rw [bne_iff_ne]; omega
        have HS := hide hs
        clear hs
        go_enter Tryd.func73, Tryd.ntmps73
        go_wp2
        go_ret
        refine ⟨?_, (Kept.refl w).alloc _⟩
        have hr := unhide HR
        rw [decide_eq_false (unhide HS)] at hr
        rw [← hr]; rfl
    · have hab : (ar != 1) = true := by rw [bne_iff_ne]; exact har
      have HS := hide har
      clear har
      go_enter Tryd.func73, Tryd.ntmps73
      go_wp2
      go_ret
      refine ⟨?_, (Kept.refl w).alloc _⟩
      have hr := unhide HR
      rw [decide_eq_false (unhide HS)] at hr
      rw [← hr]; rfl
  · have hab : (at_ != 0) = true := by rw [bne_iff_ne]; exact ha
    have HS := hide ha
    clear ha
    go_enter Tryd.func73, Tryd.ntmps73
    go_wp2
    go_ret
    refine ⟨?_, (Kept.refl w).alloc _⟩
    have hr := unhide HR
    rw [decide_eq_false (unhide HS)] at hr
    rw [← hr]; rfl

theorem fresh_any (p : List Fn) (vp v : Value) (b : Fb) (w : World) (hp : ProgAt w vp p) (hx : FbV w v b) (hin : ∀ x, x ∈ b.frames → 0 ≤ x.fn ∧ x.fn < p.length) :
    Calls Tryd.prog 73 #[vp, v] w fun e w' => e = .returned (.bool (freshB p b)) ∧ Kept w w' := by
  obtain ⟨vf, rfl, hf⟩ := hx
  obtain ⟨of, cf, rfl, hfl, hcell⟩ := id hf
  by_cases h1 : b.frames.length = 1
  · obtain ⟨x, hx⟩ := List.length_eq_one_iff.1 h1
    obtain ⟨bf, off, vl, vs, rfl, k0, k1, k2, k3, k4, k5⟩ := hcell 0 x (by rw [hx]; rfl)
    obtain ⟨oa, cap, rfl, hpl, hpc⟩ := id hp
    have hxm := hin x (by rw [hx]; simp)
    obtain ⟨i, hi⟩ : ∃ i : Nat, x.fn = i := ⟨x.fn.toNat, by omega⟩
    obtain ⟨b', o, cv, rfl, c0, _, _, _⟩ := hpc i _ (getD_of_lt p i Fn.zero (by omega))
    obtain ⟨ol, cl, rfl, _, _⟩ := id k4
    obtain ⟨os, cs, rfl, _, _⟩ := id k5
    rw [hi] at k0
    rw [h1]
    refine fresh_one b' o bf off cf _ cap i _ cs cl ol os x.at_ _ _ x.locals w (by omega) c0 (by simpa using k0) (by simpa using k1) (by simpa using k2) (by simpa using k3) k4 _ ?_
    unfold freshB
    rw [hx]
    simp only [hi, Int.toNat_natCast]
  · have : freshB p b = false := by
      unfold freshB
      split
      · rename_i e; rw [e] at h1; simp at h1
      · rfl
    rw [this]
    exact fresh_many _ of _ cf _ w (by rw [bne_iff_ne]; omega)
end Go.Proofs.YtgdcecibfoganabDoor

namespace Go.Proofs.YtgdcecibfoganabDoor
open Go.RowKit

/-- What is asked of the frame i. -/
def atB (p : List Fn) (l : List Fr) (i : Nat) : Bool :=
  frameB p (l.getD i Fr.zero) && (!decide (i + 1 < l.length) || (ixB (l.getD (i + 1) Fr.zero).fn p.length && waitB p (l.getD i Fr.zero) 11 (l.getD (i + 1) Fr.zero).fn))
theorem framesB_at (p : List Fn) : ∀ l : List Fr, framesB p l = true ↔ ∀ i, i < l.length → atB p l i = true
  | [] => by simp [framesB]
  | [x] => by
    constructor
    · intro h i hi
      obtain rfl : i = 0 := by simpa using hi
      simpa [atB, framesB] using h
    · intro h
      have := h 0 (by simp)
      simpa [atB, framesB] using this
  | x :: y :: r => by
    have ih := framesB_at p (y :: r)
    have hs : ∀ i, atB p (x :: y :: r) (i + 1) = atB p (y :: r) i := fun i => by
      unfold atB
      simp
    simp only [framesB, Bool.and_eq_true, ih]
    constructor
    · rintro ⟨⟨h1, h2, h3⟩, h4⟩ i hi
      cases i with
      | zero => simp [atB, h1, h2, h3]
      | succ i => rw [hs]; exact h4 i (by simpa using hi)
    · intro h
      have h0 := h 0 (by simp)
      simp [atB] at h0
      exact ⟨⟨h0.1, h0.2⟩, fun i hi => by rw [← hs]; exact h (i + 1) (by simpa using hi)⟩
theorem atB_iff {p : List Fn} {l : List Fr} {i : Nat} : atB p l i = true ↔ frameB p (l.getD i Fr.zero) = true ∧ (i + 1 < l.length → ixB (l.getD (i + 1) Fr.zero).fn p.length = true ∧ waitB p (l.getD i Fr.zero) 11 (l.getD (i + 1) Fr.zero).fn = true) := by
  unfold atB
  simp only [Bool.and_eq_true, Bool.or_eq_true, Bool.not_eq_true', decide_eq_false_iff_not]
  constructor
  · rintro ⟨h1, h2⟩
    exact ⟨h1, fun h => h2.resolve_left (fun h' => h' h)⟩
  · rintro ⟨h1, h2⟩
    exact ⟨h1, Decidable.or_iff_not_imp_left.2 fun h => h2 (Decidable.not_not.1 h)⟩

/-- Bounds of heights. -/
def HBound (p : List Fn) : Prop := ∀ k a, k < p.length → -1000 ≤ (hgt p k).getD a 0 ∧ (hgt p k).getD a 0 ≤ 1000

set_option maxHeartbeats 2000000 in
set_option maxRecDepth 100000 in
theorem fiberFine_none (vp : Value) (of : Option Addr) (cf : Nat) (ca : Int) (on runs : Bool) (w : World) :
    Calls Tryd.prog 49 #[vp, .agg #[.slice of 0 cf, .int .i64 ca], .bool on, .bool runs] w fun e w' => e = .returned (.bool (!on && decide (ca = -1))) ∧ Kept w w' := by
  generalize hr : (!on && decide (ca = -1)) = r
  have HR := hide hr
  clear hr
  cases on with
  | true =>
    go_enter Tryd.func49, Tryd.ntmps49
    go_wp2
    go_ret
    have hr := unhide HR
    exact ⟨by rw [← hr]; rfl, (Kept.refl w).alloc _⟩
  | false =>
    by_cases hc : ca = -1
    · subst hc
      go_enter Tryd.func49, Tryd.ntmps49
      go_wp2
      go_ret
      have hr := unhide HR
      exact ⟨by rw [← hr]; rfl, (Kept.refl w).alloc _⟩
    · have hcb : (ca == -1) = false := by rw [beq_eq_false_iff_ne]; exact hc
      have HC := hide hc
      clear hc
      go_enter Tryd.func49, Tryd.ntmps49
      go_wp2
      go_ret
      have hr := unhide HR
      rw [decide_eq_false (unhide HC)] at hr
      exact ⟨by rw [← hr]; rfl, (Kept.refl w).alloc _⟩
end Go.Proofs.YtgdcecibfoganabDoor

namespace Go.Proofs.YtgdcecibfoganabDoor
open Go.RowKit

theorem at_drop {L tl : List Oper} {i : Nat} {oi : Oper} (hd : L.drop i = oi :: tl) : L.toArray[i]? = some oi := by
  have h : (L.drop i)[0]? = some oi := by rw [hd]; rfl
  rw [List.getElem?_drop] at h
  simpa using h

/-- An operation that is wanted, and yields in every world that meets S. -/
theorem take_yes {P : Program} {md : Region.Mode} {Q : Exit → Act → World → Prop} {S : World → Prop} {L tl : List Oper} {i : Nat} {oi : Oper} {v : Value} {fuel : Nat} {listed : Array Bool} {a : Act} {w : World} (hd : L.drop i = oi :: tl)
    (hs : Region.noSelect L.toArray = true) (hf : Region.free md L.toArray listed i = true) (hr : (Region.ready md L.toArray listed).contains i = true)
    (hQ : ∀ c a w, Q (.panic c) (a.put oi.dst v) w → Q (.panic c) a w) (hw : Region.wanted oi (yielded L.toArray a.tmps) = true) (hy : ∀ u, S u → (execOp a.eval oi).run P u = .ok (.value v) u) (hS : S w)
    (h : wpAnyH P md L.toArray Q S fuel (listed.setIfInBounds i true) (a.put oi.dst v) w) : wpAnyH P md L.toArray Q S (fuel + 1) listed a w :=
  wpAnyH_take (at_drop hd) hs hf hr hQ (.inl ⟨hw, hy⟩) hS h

/-- An operation that is not wanted. -/
theorem take_no {P : Program} {md : Region.Mode} {Q : Exit → Act → World → Prop} {S : World → Prop} {L tl : List Oper} {i : Nat} {oi : Oper} {fuel : Nat} {listed : Array Bool} {a : Act} {w : World} (hd : L.drop i = oi :: tl)
    (hs : Region.noSelect L.toArray = true) (hf : Region.free md L.toArray listed i = true) (hr : (Region.ready md L.toArray listed).contains i = true)
    (hQ : ∀ c a w, Q (.panic c) (a.put oi.dst undef) w → Q (.panic c) a w) (hw : Region.wanted oi (yielded L.toArray a.tmps) = false) (hS : S w)
    (h : wpAnyH P md L.toArray Q S fuel (listed.setIfInBounds i true) (a.put oi.dst undef) w) : wpAnyH P md L.toArray Q S (fuel + 1) listed a w :=
  wpAnyH_take (at_drop hd) hs hf hr hQ (.inr ⟨hw, rfl⟩) hS h

/-- The one that may come up now. -/
theorem take_one {P : Program} {md : Region.Mode} {Q : Exit → Act → World → Prop} {S : World → Prop} {L tl : List Oper} {i : Nat} {oi : Oper} {fuel : Nat} {listed : Array Bool} {a : Act} {w : World} (hd : L.drop i = oi :: tl)
    (hr : Region.ready md L.toArray listed = [i])
    (h : ∀ K' : Act → World → Prop, Shut (∀ a w, S w → (S w → wpAnyH P md L.toArray Q S fuel (listed.setIfInBounds i true) a w) → K' a w) → if Region.wanted oi (yielded L.toArray a.tmps) = true then Oper.wp P oi a w K' Q else K' (a.put oi.dst undef) w) :
    wpAnyH P md L.toArray Q S (fuel + 1) listed a w :=
  wpAnyH_ready hr (by simp) (AllReadyH.cons (at_drop hd) h AllReadyH.nil)
end Go.Proofs.YtgdcecibfoganabDoor
