/- StateQ, StateR, Takes, TakesT, StepI -/
import Derived.Test.YtohlefnljgkdcabDoorST16
import Derived.Deep.RegionHeld3
import Derived.Deep.DeepCutAuto
import Derived.Deep.RegionHeld2
import Derived.Test.YtohlefnljgkdcabDoorST01
import Derived.Test.YtohlefnljgkdcabDoorChecked
namespace Go.Proofs.YtohlefnljgkdcabDoor
open Go.RowKit
set_option maxHeartbeats 4000000 in
set_option maxRecDepth 100000 in
theorem isFresh_go (b o bf off cf n cap i ns cs cl nf : Nat) (ol os : Option Addr) (at_ ar now : Int) (vF vO vh : Value) (l : List Int) (w : World) (hi : i < n) (hnf : 0 < nf)
    (c0 : w.cell? ⟨b, o + i * 3, none⟩ = some (.int .i64 ar)) (k0 : w.cell? ⟨bf, off, none⟩ = some (.int .i64 i)) (k1 : w.cell? ⟨bf, off + 1, none⟩ = some (.int .i64 at_))
    (k2 : w.cell? ⟨bf, off + 2, none⟩ = some (.slice ol l.length cl)) (k3 : w.cell? ⟨bf, off + 3, none⟩ = some (.slice os ns cs)) (hl : IntsW w (.slice ol l.length cl) l) (r : Bool)
    (hr : (decide (nf = 1) && ((decide (at_ = 0) && (decide (ar = 1) && decide (ns = 0))) && zerosB l)) = r) :
    Calls Tryd.prog 90 #[.agg #[vF, .int .i64 now, vO, .slice (some ⟨b, o, none⟩) n cap, vh], .slice (some ⟨bf, off, none⟩) nf cf] w fun e w' => e = .returned (.bool r) ∧ Kept w w' := by
  have HR := hide hr
  have HL := hide hl
  clear hr hl
  have hi1 : (i : Int) < (n : Int) := by omega
  have hi0 : (0 : Int) ≤ (i : Int) := by omega
  have hf1 : (0 : Int) < (nf : Int) := by omega
  have lb := cell_lt c0
  have lf := cell_lt k0
  simp only at lb lf
  have C0 := hide c0
  have lb1 : b < w.heap.size + 1 := by omega
  clear c0
  go_enter Tryd.func90, Tryd.ntmps90
  go_wp2
  generalize hw0 : (w.alloc (.cells #[vF, .int .i64 now, vO, .slice (some ⟨b, o, none⟩) n cap, vh] 102)).alloc (.cells #[.int .i64 i, .int .i64 at_, .slice ol l.length cl, .slice os ns cs] 76) = w0 at *
  have hk0 : Kept w w0 := by rw [← hw0]; exact ((Kept.refl w).alloc _).alloc _
  have x3 : w0.cell? ⟨w.heap.size, 3, none⟩ = some (.slice (some ⟨b, o, none⟩) n cap) := by rw [← hw0]; simp
  have y0 : w0.cell? ⟨w.heap.size + 1, 0, none⟩ = some (.int .i64 i) := by rw [← hw0]; simp
  have y1 : w0.cell? ⟨w.heap.size + 1, 1, none⟩ = some (.int .i64 at_) := by rw [← hw0]; simp
  have y3 : w0.cell? ⟨w.heap.size + 1, 3, none⟩ = some (.slice os ns cs) := by rw [← hw0]; simp
  have d0 := hk0.cell (unhide C0)
  have HK0 := hide hk0
  clear hw0 hk0 k0 k1 k2 k3 lb lf lb1
  go_loopw [14] (fun s14 wr => ∃ k : Nat, k ≤ l.length ∧ s14 = .int .i64 k ∧ Hid (∀ i, i < k → l.getD i 0 = 0) ∧ Hid (w0 = wr)) (fun s14 _ => l.length - (intOf s14).toNat)
  case atStart => exact ⟨0, Nat.zero_le _, rfl, (fun i hi => by omega), rfl⟩
  case round =>
    obtain ⟨k, hkm, rfl, HA, HW⟩ := hrel
    have hw := unhide HW
    subst hw
    clear HW
    by_cases hlt : k < l.length
    · obtain ⟨oa, ca', e1, _, hcell⟩ := unhide HL
      obtain ⟨b1, o1, e2, c1⟩ := hcell k _ (getD_of_lt l k 0 hlt)
      obtain ⟨rfl, -, -⟩ := (by simpa using e1 : ol = oa ∧ l.length = l.length ∧ cl = ca')
      have d1 := (unhide HK0).cell c1
      subst e2
      clear c1 hcell e1
      have HZI := hide (getD_of_lt l k 0 hlt)
      generalize hz1 : l.getD k 0 = z at *
      have Z1 := hide hz1
      clear hz1
      by_cases hz : z = 0
      · subst hz
        go_wp2
        go_roundw
        case rel =>
          refine ⟨k + 1, by omega, by go_num, ?_, trivial⟩
          intro i hi
          by_cases e : i = k
          · subst e; exact unhide Z1
          · exact (unhide HA) i (by omega)
        case measure => simp [intOf]; omega
      · have hzb : (z != 0) = true := by rw [bne_iff_ne]; exact hz
        have HZ := hide hz
        clear hz
        go_wp2
        go_ret
        refine ⟨?_, unhide HK0⟩
        have hf : zerosB l = false := by
          unfold zerosB
          rw [Bool.eq_false_iff]
          intro h
          rw [List.all_eq_true] at h
          have := h z (List.mem_of_getElem? (unhide HZI))
          exact (unhide HZ) (by simpa using this)
        have hr := unhide HR
        rw [hf, Bool.and_false, Bool.and_false] at hr
        rw [← hr]; rfl
    · have hf : zerosB l = true := by
        unfold zerosB
        rw [List.all_eq_true]
        intro z hz
        obtain ⟨i, hi, rfl⟩ := List.getElem_of_mem hz
        have := (unhide HA) i (by omega)
        simpa [List.getD, hi] using this
      have hr := unhide HR
      rw [hf, Bool.and_true] at hr
      have HR2 := hide hr
      clear hr hf HR HA
      by_cases h1 : nf = 1
      · subst h1
        by_cases h2 : at_ = 0
        · subst h2
          by_cases h3 : ar = 1
          · subst h3
            by_cases h4 : ns = 0
            · subst h4
              go_wp2
              go_ret
              exact ⟨by rw [← unhide HR2]; rfl, unhide HK0⟩
            · have hb : ((ns : Int) == 0) = false := by rw [beq_eq_false_iff_ne]; omega
              have H4 := hide h4
              clear h4
              go_wp2
              go_ret
              exact ⟨by rw [← unhide HR2, decide_eq_false (unhide H4)]; rfl, unhide HK0⟩
          · have hb : (ar == 1) = false := by rw [beq_eq_false_iff_ne]; exact h3
            have H3 := hide h3
            clear h3
            go_wp2
            go_ret
            exact ⟨by rw [← unhide HR2, decide_eq_false (unhide H3)]; rfl, unhide HK0⟩
        · have hb : (at_ == 0) = false := by rw [beq_eq_false_iff_ne]; exact h2
          have H2 := hide h2
          clear h2
          go_wp2
          go_ret
          exact ⟨by rw [← unhide HR2, decide_eq_false (unhide H2)]; rfl, unhide HK0⟩
      · have hb : ((nf : Int) == 1) = false := by rw [beq_eq_false_iff_ne]; omega
        have H1 := hide h1
        clear h1
        go_wp2
        go_ret
        exact ⟨by rw [← unhide HR2, decide_eq_false (unhide H1)]; rfl, unhide HK0⟩
theorem isFresh_any (p : List Fn) (s : St) (v vf : Value) (b : Fb) (w : World) (hj : JudgeV w v p s) (hf : FramesAt w vf b.frames) (hn : 0 < b.frames.length) (hin : ∀ x, x ∈ b.frames → 0 ≤ x.fn ∧ x.fn < p.length) :
    Calls Tryd.prog 90 #[v, vf] w fun e w' => e = .returned (.bool (freshB p b)) ∧ Kept w w' := by
  obtain ⟨vF, vO, vp, vh, rfl, _, _, h3, _⟩ := hj
  obtain ⟨of, cf, rfl, hfl, hcell⟩ := id hf
  obtain ⟨bf, off, vl, vs, rfl, k0, k1, k2, k3, k4, k5⟩ := hcell 0 _ (getD_of_lt b.frames 0 Fr.zero hn)
  have hm : b.frames.getD 0 Fr.zero ∈ b.frames := List.mem_of_getElem? (getD_of_lt b.frames 0 Fr.zero hn)
  have hxm := hin _ hm
  generalize hX : b.frames.getD 0 Fr.zero = x at *
  obtain ⟨oa, cap, rfl, hpl, hpc⟩ := id h3
  obtain ⟨i, hi⟩ : ∃ i : Nat, x.fn = i := ⟨x.fn.toNat, by omega⟩
  obtain ⟨b', o, cv, rfl, c0, _, _, _⟩ := hpc i _ (getD_of_lt p i Fn.zero (by omega))
  obtain ⟨ol, cl, rfl, _, _⟩ := id k4
  obtain ⟨os, cs, rfl, _, _⟩ := id k5
  rw [hi] at k0
  refine isFresh_go b' o bf off cf _ cap i _ cs cl _ ol os x.at_ _ _ vF vO vh x.locals w (by omega) hn c0 (by simpa using k0) (by simpa using k1) (by simpa using k2) (by simpa using k3) k4 _ ?_
  unfold freshB
  split
  · rename_i x' e
    rw [e] at hX
    simp at hX
    subst hX
    simp [e, hi]
  · rename_i hno
    have : ¬ b.frames.length = 1 := by
      intro h
      obtain ⟨y, hy⟩ := List.length_eq_one_iff.1 h
      exact hno y hy
    simp [this]
end Go.Proofs.YtohlefnljgkdcabDoor
namespace Go.Proofs.YtohlefnljgkdcabDoor
open Go.RowKit
theorem cell_at {w : World} {b : Nat} {c : Array Value} {t : TypeId} {fr : Nat × Nat} (h : w.heap[b]? = some (.cells c t fr)) {i : Nat} {v : Value} (hv : c[i]? = some v) : w.cell? ⟨b, i, none⟩ = some v := (cell_lays h i).trans hv
theorem viaK {K : Act → World → Prop} {R : Act → World → Prop} {S : World → Prop} (_ : Shut (∀ a w, S w → (S w → R a w) → K a w)) (hF : False) (a : Act) (w : World) {G : Prop} (_ : K a w) : G := hF.elim
set_option maxHeartbeats 8000000 in
set_option maxRecDepth 100000 in
theorem askWaiting_bad (n cap i ns cs b o : Nat) (vF vO vh vl : Value) (os : Option Addr) (now at_ h k1 a1 : Int) (w : World) (hb : -1000 ≤ h ∧ h ≤ 1000) (_hns : ns ≤ 17592186043904)
    (hh : ∀ u, Kept w u → Calls Tryd.prog 89 #[.agg #[vF, .int .i64 now, vO, .slice (some ⟨b, o, none⟩) n cap, vh], .agg #[.int .i64 i, .int .i64 at_, vl, .slice os ns cs]] u fun e u' => e = .returned (.int .i64 h) ∧ Kept u u')
    (hno : ¬ (0 < at_ ∧ (ns : Int) = h - 1)) :
    Calls Tryd.prog 91 #[.agg #[vF, .int .i64 now, vO, .slice (some ⟨b, o, none⟩) n cap, vh], .agg #[.int .i64 i, .int .i64 at_, vl, .slice os ns cs], .agg #[.int .i64 k1, .int .i64 a1]] w fun e w' => e = left 1 ∧ Kept w w' := by
  obtain ⟨hb1, hb2⟩ := hb
  have hwr : IntKind.i64.wrap (h - 1) = h - 1 := wrap_tiny _ (by omega) (by omega)
  have HHH := hide hh
  clear hh
  go_enter Tryd.func91, Tryd.ntmps91
  go_wp2
  generalize hw0 : ((w.alloc (.cells #[vF, .int .i64 now, vO, .slice (some ⟨b, o, none⟩) n cap, vh] 102)).alloc (.cells #[.int .i64 i, .int .i64 at_, vl, .slice os ns cs] 76)).alloc (.cells #[.int .i64 k1, .int .i64 a1] 38) = w0 at *
  have hk0 : Kept w w0 := by rw [← hw0]; exact (((Kept.refl w).alloc _).alloc _).alloc _
  generalize hB0 : w.heap.size = B0 at *
  generalize hB1 : B0 + 1 = B1 at *
  have HY : Hid (∀ u, Kept w0 u → u.cell? ⟨B0, 0, none⟩ = some vF ∧ u.cell? ⟨B0, 1, none⟩ = some (.int .i64 now) ∧ u.cell? ⟨B0, 2, none⟩ = some vO ∧ u.cell? ⟨B0, 3, none⟩ = some (.slice (some ⟨b, o, none⟩) n cap) ∧ u.cell? ⟨B0, 4, none⟩ = some vh ∧ u.cell? ⟨B1, 0, none⟩ = some (.int .i64 i) ∧ u.cell? ⟨B1, 1, none⟩ = some (.int .i64 at_) ∧ u.cell? ⟨B1, 2, none⟩ = some vl ∧ u.cell? ⟨B1, 3, none⟩ = some (.slice os ns cs)) := by
    have q : w0.cell? ⟨B0, 0, none⟩ = some vF ∧ w0.cell? ⟨B0, 1, none⟩ = some (.int .i64 now) ∧ w0.cell? ⟨B0, 2, none⟩ = some vO ∧ w0.cell? ⟨B0, 3, none⟩ = some (.slice (some ⟨b, o, none⟩) n cap) ∧ w0.cell? ⟨B0, 4, none⟩ = some vh ∧ w0.cell? ⟨B1, 0, none⟩ = some (.int .i64 i) ∧ w0.cell? ⟨B1, 1, none⟩ = some (.int .i64 at_) ∧ w0.cell? ⟨B1, 2, none⟩ = some vl ∧ w0.cell? ⟨B1, 3, none⟩ = some (.slice os ns cs) := by
      have L0 : w0.heap[B0]? = some (.cells #[vF, .int .i64 now, vO, .slice (some ⟨b, o, none⟩) n cap, vh] 102) := by
        rw [← hw0]; exact lays_alloc (lays_alloc (lays_new hB0) _) _
      have L1 : w0.heap[B1]? = some (.cells #[.int .i64 i, .int .i64 at_, vl, .slice os ns cs] 76) := by
        rw [← hw0]; exact lays_alloc (lays_new (by simp [hB0, hB1])) _
      exact ⟨cell_at L0 rfl, cell_at L0 rfl, cell_at L0 rfl, cell_at L0 rfl, cell_at L0 rfl, cell_at L1 rfl, cell_at L1 rfl, cell_at L1 rfl, cell_at L1 rfl⟩
    obtain ⟨q0, q1, q2, q3, q4, q5, q6, q7, q8⟩ := q
    exact hide (fun u hu => ⟨hu.cell q0, hu.cell q1, hu.cell q2, hu.cell q3, hu.cell q4, hu.cell q5, hu.cell q6, hu.cell q7, hu.cell q8⟩)
  have HH := hide (show ∀ u, Kept w0 u → _ from fun u hu => (unhide HHH) u (hk0.trans hu))
  have HK0 := hide hk0
  clear hw0 hk0 HHH hB0 hB1
  by_cases h1 : 0 < at_
  · have h2 : ¬ (ns : Int) = h - 1 := fun e => hno ⟨h1, e⟩
    have hb : ((ns : Int) == h - 1) = false := by rw [beq_eq_false_iff_ne]; exact h2
    have hd : decide (0 < at_) = true := decide_eq_true h1
    clear hno h2
    go_region_held2 (fun u => u.cell? ⟨B0, 0, none⟩ = some vF ∧ u.cell? ⟨B0, 1, none⟩ = some (.int .i64 now) ∧ u.cell? ⟨B0, 2, none⟩ = some vO ∧ u.cell? ⟨B0, 3, none⟩ = some (.slice (some ⟨b, o, none⟩) n cap) ∧ u.cell? ⟨B0, 4, none⟩ = some vh ∧ u.cell? ⟨B1, 0, none⟩ = some (.int .i64 i) ∧ u.cell? ⟨B1, 1, none⟩ = some (.int .i64 at_) ∧ u.cell? ⟨B1, 2, none⟩ = some vl ∧ u.cell? ⟨B1, 3, none⟩ = some (.slice os ns cs))
      (first | exact hF.elim | exact (unhide HY) _ (Kept.trans (Kept.trans (by repeat (first | exact Kept.refl _ | refine Kept.drew ?_ | refine Kept.alloc ?_ _)) hkA) (by repeat (first | exact Kept.refl _ | refine Kept.drew ?_ | refine Kept.alloc ?_ _))) | exact (unhide HY) _ (by repeat (first | exact Kept.refl _ | refine Kept.drew ?_ | refine Kept.alloc ?_ _)))
      (first | (go_at_call 89; refine ((unhide HH) _ (by repeat (first | exact Kept.refl _ | refine Kept.drew ?_ | refine Kept.alloc ?_ _))).mono ?_; rintro e wA ⟨rfl, hkA⟩) | (go_at_call 86; refine (ask2_no' _ _ _ true _ (by simp) (by simp)).mono ?_; rintro e wC ⟨rfl, rfl⟩; dsimp only [left]; refine (Classical.em False).elim (fun hF => ?_) (fun _ => ⟨rfl, rfl, Kept.trans (unhide HK0) (Kept.trans (Kept.trans (by repeat (first | exact Kept.refl _ | refine Kept.drew ?_ | refine Kept.alloc ?_ _)) hkA) (by repeat (first | exact Kept.refl _ | refine Kept.drew ?_ | refine Kept.alloc ?_ _)))⟩); refine viaK ‹Shut _› hF ⟨#[], []⟩ w0 ?_))
    all_goals exact hF.elim
  · have hd : decide (0 < at_) = false := decide_eq_false h1
    clear hno h1
    by_cases h2 : (ns : Int) = h - 1
    · have hb : ((ns : Int) == h - 1) = true := by rw [beq_iff_eq]; exact h2
      clear h2
      go_region_held2 (fun u => u.cell? ⟨B0, 0, none⟩ = some vF ∧ u.cell? ⟨B0, 1, none⟩ = some (.int .i64 now) ∧ u.cell? ⟨B0, 2, none⟩ = some vO ∧ u.cell? ⟨B0, 3, none⟩ = some (.slice (some ⟨b, o, none⟩) n cap) ∧ u.cell? ⟨B0, 4, none⟩ = some vh ∧ u.cell? ⟨B1, 0, none⟩ = some (.int .i64 i) ∧ u.cell? ⟨B1, 1, none⟩ = some (.int .i64 at_) ∧ u.cell? ⟨B1, 2, none⟩ = some vl ∧ u.cell? ⟨B1, 3, none⟩ = some (.slice os ns cs))
        (first | exact hF.elim | exact (unhide HY) _ (Kept.trans (Kept.trans (by repeat (first | exact Kept.refl _ | refine Kept.drew ?_ | refine Kept.alloc ?_ _)) hkA) (by repeat (first | exact Kept.refl _ | refine Kept.drew ?_ | refine Kept.alloc ?_ _))) | exact (unhide HY) _ (by repeat (first | exact Kept.refl _ | refine Kept.drew ?_ | refine Kept.alloc ?_ _)))
        (first | (go_at_call 89; refine ((unhide HH) _ (by repeat (first | exact Kept.refl _ | refine Kept.drew ?_ | refine Kept.alloc ?_ _))).mono ?_; rintro e wA ⟨rfl, hkA⟩) | (go_at_call 86; refine (ask2_no _ _ _ true _ (by simp) (by simp)).mono ?_; rintro e wC ⟨rfl, rfl⟩; dsimp only [left]; refine (Classical.em False).elim (fun hF => ?_) (fun _ => ⟨rfl, rfl, Kept.trans (unhide HK0) (Kept.trans (Kept.trans (by repeat (first | exact Kept.refl _ | refine Kept.drew ?_ | refine Kept.alloc ?_ _)) hkA) (by repeat (first | exact Kept.refl _ | refine Kept.drew ?_ | refine Kept.alloc ?_ _)))⟩); refine viaK ‹Shut _› hF ⟨#[], []⟩ w0 ?_))
      all_goals exact hF.elim
    · have hb : ((ns : Int) == h - 1) = false := by rw [beq_eq_false_iff_ne]; exact h2
      clear h2
      go_region_held2 (fun u => u.cell? ⟨B0, 0, none⟩ = some vF ∧ u.cell? ⟨B0, 1, none⟩ = some (.int .i64 now) ∧ u.cell? ⟨B0, 2, none⟩ = some vO ∧ u.cell? ⟨B0, 3, none⟩ = some (.slice (some ⟨b, o, none⟩) n cap) ∧ u.cell? ⟨B0, 4, none⟩ = some vh ∧ u.cell? ⟨B1, 0, none⟩ = some (.int .i64 i) ∧ u.cell? ⟨B1, 1, none⟩ = some (.int .i64 at_) ∧ u.cell? ⟨B1, 2, none⟩ = some vl ∧ u.cell? ⟨B1, 3, none⟩ = some (.slice os ns cs))
        (first | exact hF.elim | exact (unhide HY) _ (Kept.trans (Kept.trans (by repeat (first | exact Kept.refl _ | refine Kept.drew ?_ | refine Kept.alloc ?_ _)) hkA) (by repeat (first | exact Kept.refl _ | refine Kept.drew ?_ | refine Kept.alloc ?_ _))) | exact (unhide HY) _ (by repeat (first | exact Kept.refl _ | refine Kept.drew ?_ | refine Kept.alloc ?_ _)))
        (first | (go_at_call 89; refine ((unhide HH) _ (by repeat (first | exact Kept.refl _ | refine Kept.drew ?_ | refine Kept.alloc ?_ _))).mono ?_; rintro e wA ⟨rfl, hkA⟩) | (go_at_call 86; refine (ask2_no _ _ _ false _ (by simp) (by simp)).mono ?_; rintro e wC ⟨rfl, rfl⟩; dsimp only [left]; refine (Classical.em False).elim (fun hF => ?_) (fun _ => ⟨rfl, rfl, Kept.trans (unhide HK0) (Kept.trans (Kept.trans (by repeat (first | exact Kept.refl _ | refine Kept.drew ?_ | refine Kept.alloc ?_ _)) hkA) (by repeat (first | exact Kept.refl _ | refine Kept.drew ?_ | refine Kept.alloc ?_ _)))⟩); refine viaK ‹Shut _› hF ⟨#[], []⟩ w0 ?_))
      all_goals exact hF.elim
set_option maxHeartbeats 8000000 in
set_option maxRecDepth 100000 in
theorem askWaiting_good (n cap i ns cs b o bc co m cc a : Nat) (vF vO vh vl : Value) (os : Option Addr) (now h k1 a1 : Int) (x : Int × Int) (w : World) (hb : -1000 ≤ h ∧ h ≤ 1000) (_hns : ns ≤ 17592186043904)
    (hh : ∀ u, Kept w u → Calls Tryd.prog 89 #[.agg #[vF, .int .i64 now, vO, .slice (some ⟨b, o, none⟩) n cap, vh], .agg #[.int .i64 i, .int .i64 ((a : Int) + 1), vl, .slice os ns cs]] u fun e u' => e = .returned (.int .i64 h) ∧ Kept u u')
    (hi : i < n) (ha : a + 1 < m) (hm : m ≤ 8796093022208) (hz : (ns : Int) = h - 1) (c2 : w.cell? ⟨b, o + i * 3 + 2, none⟩ = some (.slice (some ⟨bc, co, none⟩) m cc))
    (e0 : w.cell? ⟨bc, co + a * 2, none⟩ = some (.int .i64 x.1)) (e1 : w.cell? ⟨bc, co + a * 2 + 1, none⟩ = some (.int .i64 x.2)) (r : Bool) (hr : decide (x = (k1, a1)) = r) :
    Calls Tryd.prog 91 #[.agg #[vF, .int .i64 now, vO, .slice (some ⟨b, o, none⟩) n cap, vh], .agg #[.int .i64 i, .int .i64 ((a : Int) + 1), vl, .slice os ns cs], .agg #[.int .i64 k1, .int .i64 a1]] w fun e w' => e = askEnd 1 r ∧ Kept w w' := by
  obtain ⟨hb1, hb2⟩ := hb
  have hwa : IntKind.i64.wrap (a : Int) = a := wrap_tiny _ (by omega) (by omega)
  have hi1 : (i : Int) < (n : Int) := by omega
  have hi0 : (0 : Int) ≤ (i : Int) := by omega
  have ha1 : (a : Int) < (m : Int) := by omega
  have ha0 : (0 : Int) ≤ (a : Int) := by omega
  have hap : (a : Int) + 1 - 1 = a := by omega
  have hd : decide (0 < (a : Int) + 1) = true := decide_eq_true (by omega)
  have hzb : ((ns : Int) == h - 1) = true := by rw [beq_iff_eq]; exact hz
  have hwr : IntKind.i64.wrap (h - 1) = h - 1 := wrap_tiny _ (by omega) (by omega)
  have HHH := hide hh
  clear hh
  go_enter Tryd.func91, Tryd.ntmps91
  go_wp2
  generalize hw0 : ((w.alloc (.cells #[vF, .int .i64 now, vO, .slice (some ⟨b, o, none⟩) n cap, vh] 102)).alloc (.cells #[.int .i64 i, .int .i64 ((a : Int) + 1), vl, .slice os ns cs] 76)).alloc (.cells #[.int .i64 k1, .int .i64 a1] 38) = w0 at *
  have hk0 : Kept w w0 := by rw [← hw0]; exact (((Kept.refl w).alloc _).alloc _).alloc _
  generalize hB0 : w.heap.size = B0 at *
  generalize hB1 : B0 + 1 = B1 at *
  have HY : Hid (∀ u, Kept w0 u → u.cell? ⟨B0, 0, none⟩ = some vF ∧ u.cell? ⟨B0, 1, none⟩ = some (.int .i64 now) ∧ u.cell? ⟨B0, 2, none⟩ = some vO ∧ u.cell? ⟨B0, 3, none⟩ = some (.slice (some ⟨b, o, none⟩) n cap) ∧ u.cell? ⟨B0, 4, none⟩ = some vh ∧ u.cell? ⟨B1, 0, none⟩ = some (.int .i64 i) ∧ u.cell? ⟨B1, 1, none⟩ = some (.int .i64 ((a : Int) + 1)) ∧ u.cell? ⟨B1, 2, none⟩ = some vl ∧ u.cell? ⟨B1, 3, none⟩ = some (.slice os ns cs)) := by
    have q : w0.cell? ⟨B0, 0, none⟩ = some vF ∧ w0.cell? ⟨B0, 1, none⟩ = some (.int .i64 now) ∧ w0.cell? ⟨B0, 2, none⟩ = some vO ∧ w0.cell? ⟨B0, 3, none⟩ = some (.slice (some ⟨b, o, none⟩) n cap) ∧ w0.cell? ⟨B0, 4, none⟩ = some vh ∧ w0.cell? ⟨B1, 0, none⟩ = some (.int .i64 i) ∧ w0.cell? ⟨B1, 1, none⟩ = some (.int .i64 ((a : Int) + 1)) ∧ w0.cell? ⟨B1, 2, none⟩ = some vl ∧ w0.cell? ⟨B1, 3, none⟩ = some (.slice os ns cs) := by
      have L0 : w0.heap[B0]? = some (.cells #[vF, .int .i64 now, vO, .slice (some ⟨b, o, none⟩) n cap, vh] 102) := by
        rw [← hw0]; exact lays_alloc (lays_alloc (lays_new hB0) _) _
      have L1 : w0.heap[B1]? = some (.cells #[.int .i64 i, .int .i64 ((a : Int) + 1), vl, .slice os ns cs] 76) := by
        rw [← hw0]; exact lays_alloc (lays_new (by simp [hB0, hB1])) _
      exact ⟨cell_at L0 rfl, cell_at L0 rfl, cell_at L0 rfl, cell_at L0 rfl, cell_at L0 rfl, cell_at L1 rfl, cell_at L1 rfl, cell_at L1 rfl, cell_at L1 rfl⟩
    obtain ⟨q0, q1, q2, q3, q4, q5, q6, q7, q8⟩ := q
    exact hide (fun u hu => ⟨hu.cell q0, hu.cell q1, hu.cell q2, hu.cell q3, hu.cell q4, hu.cell q5, hu.cell q6, hu.cell q7, hu.cell q8⟩)
  have HY2 : Hid (∀ u, Kept w0 u → u.cell? ⟨B0, 3, none⟩ = some (.slice (some ⟨b, o, none⟩) n cap) ∧ u.cell? ⟨B1, 0, none⟩ = some (.int .i64 i) ∧ u.cell? ⟨B1, 1, none⟩ = some (.int .i64 ((a : Int) + 1)) ∧ u.cell? ⟨B1 + 1, 0, none⟩ = some (.int .i64 k1) ∧ u.cell? ⟨B1 + 1, 1, none⟩ = some (.int .i64 a1) ∧ u.cell? ⟨b, o + i * 3 + 2, none⟩ = some (.slice (some ⟨bc, co, none⟩) m cc) ∧ u.cell? ⟨bc, co + a * 2, none⟩ = some (.int .i64 x.1) ∧ u.cell? ⟨bc, co + a * 2 + 1, none⟩ = some (.int .i64 x.2)) := by
    have L2 : w0.heap[B1 + 1]? = some (.cells #[.int .i64 k1, .int .i64 a1] 38) := by
      rw [← hw0]; exact lays_new (by simp [hB0, hB1])
    exact hide (fun u hu => by
      obtain ⟨_, _, _, r3, _, r5, r6, _, _⟩ := (unhide HY) u hu
      exact ⟨r3, r5, r6, hu.cell (cell_at L2 rfl), hu.cell (cell_at L2 rfl), (hk0.trans hu).cell c2, (hk0.trans hu).cell e0, (hk0.trans hu).cell e1⟩)
  have HH := hide (show ∀ u, Kept w0 u → _ from fun u hu => (unhide HHH) u (hk0.trans hu))
  have HK0 := hide hk0
  clear hw0 hk0 HHH hB0 hB1 c2 e0 e1 hz
  go_region_held3 (fun u => u.cell? ⟨B0, 0, none⟩ = some vF ∧ u.cell? ⟨B0, 1, none⟩ = some (.int .i64 now) ∧ u.cell? ⟨B0, 2, none⟩ = some vO ∧ u.cell? ⟨B0, 3, none⟩ = some (.slice (some ⟨b, o, none⟩) n cap) ∧ u.cell? ⟨B0, 4, none⟩ = some vh ∧ u.cell? ⟨B1, 0, none⟩ = some (.int .i64 i) ∧ u.cell? ⟨B1, 1, none⟩ = some (.int .i64 ((a : Int) + 1)) ∧ u.cell? ⟨B1, 2, none⟩ = some vl ∧ u.cell? ⟨B1, 3, none⟩ = some (.slice os ns cs))
    (first | exact (unhide HY) _ (Kept.trans (Kept.trans (by repeat (first | exact Kept.refl _ | refine Kept.drew ?_ | refine Kept.alloc ?_ _)) hkA) (by repeat (first | exact Kept.refl _ | refine Kept.drew ?_ | refine Kept.alloc ?_ _))) | exact (unhide HY) _ (by repeat (first | exact Kept.refl _ | refine Kept.drew ?_ | refine Kept.alloc ?_ _)))
    (first | (go_at_call 89; refine ((unhide HH) _ (by repeat (first | exact Kept.refl _ | refine Kept.drew ?_ | refine Kept.alloc ?_ _))).mono ?_; rintro e wA ⟨rfl, hkA⟩) | (go_at_call 86; refine (ask2_ok _ _ _ _ (by simp) (by simp)).mono ?_; rintro e wC ⟨rfl, rfl⟩))
  all_goals go_wp2_with fail
  have hkA2 : Kept w0 (wA.alloc (.cells #[.bool true, .bool true] 4)) := Kept.trans (Kept.trans (by repeat (first | exact Kept.refl _ | refine Kept.drew ?_ | refine Kept.alloc ?_ _)) hkA) (by repeat (first | exact Kept.refl _ | refine Kept.drew ?_ | refine Kept.alloc ?_ _))
  generalize hwz : wA.alloc (.cells #[.bool true, .bool true] 4) = wz at *
  have HY2 := hide (show ∀ u, Kept wz u → _ from fun u hu => (unhide HY2) u (hkA2.trans hu))
  have HKA := hide ((unhide HK0).trans hkA2)
  have HR := hide hr
  obtain ⟨x1, x2⟩ := x
  simp only at HY2
  clear hwz hkA2 hkA HK0 HY HH hr
  by_cases hx1 : x1 = k1
  · subst hx1
    by_cases hx2 : x2 = a1
    · subst hx2
      go_region_held2 (fun u => u.cell? ⟨B0, 3, none⟩ = some (.slice (some ⟨b, o, none⟩) n cap) ∧ u.cell? ⟨B1, 0, none⟩ = some (.int .i64 i) ∧ u.cell? ⟨B1, 1, none⟩ = some (.int .i64 ((a : Int) + 1)) ∧ u.cell? ⟨B1 + 1, 0, none⟩ = some (.int .i64 x1) ∧ u.cell? ⟨B1 + 1, 1, none⟩ = some (.int .i64 x2) ∧ u.cell? ⟨b, o + i * 3 + 2, none⟩ = some (.slice (some ⟨bc, co, none⟩) m cc) ∧ u.cell? ⟨bc, co + a * 2, none⟩ = some (.int .i64 x1) ∧ u.cell? ⟨bc, co + a * 2 + 1, none⟩ = some (.int .i64 x2))
        (exact (unhide HY2) _ (by repeat (first | exact Kept.refl _ | refine Kept.drew ?_ | refine Kept.alloc ?_ _)))
        (first | (go_at_call 86; refine (ask1_ok _ _ _ _ (by simp)).mono ?_; rintro e wC ⟨rfl, rfl⟩))
      have hrt : r = true := by rw [← unhide HR]; simp
      subst hrt
      all_goals go_end0
      all_goals exact ⟨rfl, ((unhide HKA).alloc _).drew⟩
    · have hb : (x2 == a1) = false := by rw [beq_eq_false_iff_ne]; exact hx2
      have hrf : r = false := by rw [← unhide HR]; exact decide_eq_false (fun e => hx2 (congrArg Prod.snd e))
      subst hrf
      clear hx2
      go_region_held2 (fun u => u.cell? ⟨B0, 3, none⟩ = some (.slice (some ⟨b, o, none⟩) n cap) ∧ u.cell? ⟨B1, 0, none⟩ = some (.int .i64 i) ∧ u.cell? ⟨B1, 1, none⟩ = some (.int .i64 ((a : Int) + 1)) ∧ u.cell? ⟨B1 + 1, 0, none⟩ = some (.int .i64 x1) ∧ u.cell? ⟨B1 + 1, 1, none⟩ = some (.int .i64 a1) ∧ u.cell? ⟨b, o + i * 3 + 2, none⟩ = some (.slice (some ⟨bc, co, none⟩) m cc) ∧ u.cell? ⟨bc, co + a * 2, none⟩ = some (.int .i64 x1) ∧ u.cell? ⟨bc, co + a * 2 + 1, none⟩ = some (.int .i64 x2))
        (first | exact hF.elim | exact (unhide HY2) _ (by repeat (first | exact Kept.refl _ | refine Kept.drew ?_ | refine Kept.alloc ?_ _)))
        (first | (go_at_call 86; refine (ask1_no _ _ _ _ (by simp)).mono ?_; rintro e wC ⟨rfl, rfl⟩; dsimp only [left]; refine (Classical.em False).elim (fun hF => ?_) (fun _ => ⟨rfl, rfl, Kept.trans (unhide HKA) (by repeat (first | exact Kept.refl _ | refine Kept.drew ?_ | refine Kept.alloc ?_ _))⟩); refine viaK ‹Shut _› hF ⟨#[], []⟩ w0 ?_))
      all_goals exact hF.elim
  · have hb : (x1 == k1) = false := by rw [beq_eq_false_iff_ne]; exact hx1
    have hrf : r = false := by rw [← unhide HR]; exact decide_eq_false (fun e => hx1 (congrArg Prod.fst e))
    subst hrf
    clear hx1
    go_region_held2 (fun u => u.cell? ⟨B0, 3, none⟩ = some (.slice (some ⟨b, o, none⟩) n cap) ∧ u.cell? ⟨B1, 0, none⟩ = some (.int .i64 i) ∧ u.cell? ⟨B1, 1, none⟩ = some (.int .i64 ((a : Int) + 1)) ∧ u.cell? ⟨B1 + 1, 0, none⟩ = some (.int .i64 k1) ∧ u.cell? ⟨B1 + 1, 1, none⟩ = some (.int .i64 a1) ∧ u.cell? ⟨b, o + i * 3 + 2, none⟩ = some (.slice (some ⟨bc, co, none⟩) m cc) ∧ u.cell? ⟨bc, co + a * 2, none⟩ = some (.int .i64 x1) ∧ u.cell? ⟨bc, co + a * 2 + 1, none⟩ = some (.int .i64 x2))
      (first | exact hF.elim | exact (unhide HY2) _ (by repeat (first | exact Kept.refl _ | refine Kept.drew ?_ | refine Kept.alloc ?_ _)))
      (first | (go_at_call 86; refine (ask1_no _ _ _ _ (by simp)).mono ?_; rintro e wC ⟨rfl, rfl⟩; dsimp only [left]; refine (Classical.em False).elim (fun hF => ?_) (fun _ => ⟨rfl, rfl, Kept.trans (unhide HKA) (by repeat (first | exact Kept.refl _ | refine Kept.drew ?_ | refine Kept.alloc ?_ _))⟩); refine viaK ‹Shut _› hF ⟨#[], []⟩ w0 ?_))
    all_goals exact hF.elim
theorem askWaiting_any (p : List Fn) (s : St) (v u : Value) (x : Fr) (k1 a1 : Int) (w : World) (hj : JudgeV w v p s) (hx : FrV w u x) (hl : HLen p) (hin : InFrame p x) (hb : ∀ k a, k < p.length → -1000 ≤ (hgt p k).getD a 0 ∧ (hgt p k).getD a 0 ≤ 1000) :
    Calls Tryd.prog 91 #[v, u, .agg #[.int .i64 k1, .int .i64 a1]] w fun e w' => e = askEnd 1 (jwaitB p x (k1, a1)) ∧ Kept w w' := by
  have hh : ∀ y, Kept w y → Calls Tryd.prog 89 #[v, u] y fun e w' => e = .returned (.int .i64 (hAt p x)) ∧ Kept y w' := fun y hy => height_any p s v u x y (hj.kept hy) (hx.kept hy) hl hin
  obtain ⟨vF, vO, vp, vh, rfl, _, _, h3, _⟩ := hj
  obtain ⟨vl, vs, rfl, _, h5⟩ := hx
  obtain ⟨os, cs, rfl, hs, _⟩ := h5
  obtain ⟨oa, cap, rfl, hpl, hpc⟩ := id h3
  obtain ⟨f0, f1, a0, at1⟩ := hin
  obtain ⟨i, hi⟩ : ∃ i : Nat, x.fn = i := ⟨x.fn.toNat, by omega⟩
  have hip : i < p.length := by omega
  rw [hi, Int.toNat_natCast] at at1
  obtain ⟨b, o, cv, rfl, c0, c1, c2, hc⟩ := hpc i _ (getD_of_lt p i Fn.zero hip)
  obtain ⟨oc, cc, rfl, hm, hcc⟩ := hc
  have hbd : -1000 ≤ hAt p x ∧ hAt p x ≤ 1000 := by
    unfold hAt; rw [hi, Int.toNat_natCast]; exact hb i _ hip
  rw [hi] at hh ⊢
  by_cases hno : 0 < x.at_ ∧ (x.stack.length : Int) = hAt p x - 1
  · obtain ⟨a, ha⟩ : ∃ a : Nat, x.at_ = (a : Int) + 1 := ⟨x.at_.toNat - 1, by omega⟩
    have hlt : a < (codeOf p i).length := by omega
    obtain ⟨bc, co, rfl, k0, kk1⟩ := hcc a _ (getD_of_lt (codeOf p i) a (0, 0) hlt)
    rw [ha] at hh ⊢
    refine askWaiting_good _ cap i _ cs b o bc co _ cc a vF vO vh vl os s.now (hAt p x) k1 a1 ((codeOf p i).getD a (0, 0)) w hbd hs hh hip (by unfold codeOf at at1; omega) hm hno.2 c2 k0 kk1 _ ?_
    unfold jwaitB opAhead
    rw [hi, ha, Int.toNat_natCast, show ((a : Int) + 1).toNat - 1 = a by omega, decide_eq_true (by omega : 0 < (a : Int) + 1), decide_eq_true hno.2]
    rfl
  · have hf : jwaitB p x (k1, a1) = false := by
      unfold jwaitB
      rw [Bool.and_eq_false_iff]
      left
      rw [Bool.and_eq_false_iff]
      by_cases h1 : 0 < x.at_
      · right; exact decide_eq_false (fun e => hno ⟨h1, e⟩)
      · left; exact decide_eq_false h1
    rw [hf]
    exact askWaiting_bad _ cap i _ cs b o vF vO vh vl os s.now x.at_ (hAt p x) k1 a1 w hbd hs hh hno
end Go.Proofs.YtohlefnljgkdcabDoor
namespace Go.Proofs.YtohlefnljgkdcabDoor
open Go.RowKit
theorem at_drop {L tl : List Oper} {i : Nat} {oi : Oper} (hd : L.drop i = oi :: tl) : L.toArray[i]? = some oi := by
  have h : (L.drop i)[0]? = some oi := by rw [hd]; rfl
  rw [List.getElem?_drop] at h
  simpa using h
theorem take_yes {P : Program} {md : Region.Mode} {Q : Exit → Act → World → Prop} {S : World → Prop} {L tl : List Oper} {i : Nat} {oi : Oper} {v : Value} {fuel : Nat} {listed : Array Bool} {a : Act} {w : World} (hd : L.drop i = oi :: tl)
    (hs : Region.noSelect L.toArray = true) (hf : Region.free md L.toArray listed i = true) (hr : (Region.ready md L.toArray listed).contains i = true)
    (hQ : ∀ c a w, Q (.panic c) (a.put oi.dst v) w → Q (.panic c) a w) (hw : Region.wanted oi (yielded L.toArray a.tmps) = true) (hy : ∀ u, S u → (execOp a.eval oi).run P u = .ok (.value v) u) (hS : S w)
    (h : wpAnyH P md L.toArray Q S fuel (listed.setIfInBounds i true) (a.put oi.dst v) w) : wpAnyH P md L.toArray Q S (fuel + 1) listed a w :=
  wpAnyH_take (at_drop hd) hs hf hr hQ (.inl ⟨hw, hy⟩) hS h
theorem take_no {P : Program} {md : Region.Mode} {Q : Exit → Act → World → Prop} {S : World → Prop} {L tl : List Oper} {i : Nat} {oi : Oper} {fuel : Nat} {listed : Array Bool} {a : Act} {w : World} (hd : L.drop i = oi :: tl)
    (hs : Region.noSelect L.toArray = true) (hf : Region.free md L.toArray listed i = true) (hr : (Region.ready md L.toArray listed).contains i = true)
    (hQ : ∀ c a w, Q (.panic c) (a.put oi.dst undef) w → Q (.panic c) a w) (hw : Region.wanted oi (yielded L.toArray a.tmps) = false) (hS : S w)
    (h : wpAnyH P md L.toArray Q S fuel (listed.setIfInBounds i true) (a.put oi.dst undef) w) : wpAnyH P md L.toArray Q S (fuel + 1) listed a w :=
  wpAnyH_take (at_drop hd) hs hf hr hQ (.inr ⟨hw, rfl⟩) hS h
theorem take_one {P : Program} {md : Region.Mode} {Q : Exit → Act → World → Prop} {S : World → Prop} {L tl : List Oper} {i : Nat} {oi : Oper} {fuel : Nat} {listed : Array Bool} {a : Act} {w : World} (hd : L.drop i = oi :: tl)
    (hr : Region.ready md L.toArray listed = [i])
    (h : ∀ K' : Act → World → Prop, Shut (∀ a w, S w → (S w → wpAnyH P md L.toArray Q S fuel (listed.setIfInBounds i true) a w) → K' a w) → if Region.wanted oi (yielded L.toArray a.tmps) = true then Oper.wp P oi a w K' Q else K' (a.put oi.dst undef) w) :
    wpAnyH P md L.toArray Q S (fuel + 1) listed a w :=
  wpAnyH_ready hr (by simp) (AllReadyH.cons (at_drop hd) h AllReadyH.nil)
end Go.Proofs.YtohlefnljgkdcabDoor
namespace Go.Proofs.YtohlefnljgkdcabDoor
open Go.RowKit
def AnyT (P : Program) (md : Region.Mode) (ops : Array Oper) (Q : Exit → Act → World → Prop) (S : World → Prop) (T : Nat) : Nat → Array Bool → Act → World → Prop
  | 0, listed, a, w => Region.ready md ops listed = [] ∧ Q .normal a w
  | n + 1, listed, a, w => (Region.ready md ops listed = [] → Q .normal a w) ∧
      ∀ i ∈ Region.ready md ops listed, wpOp P ops Q i (fun a' w' => (i ≠ T → S w') ∧ AnyT P md ops Q S T n (listed.setIfInBounds i true) a' w') a w
variable {P : Program} {md : Region.Mode} {ops : Array Oper} {Q : Exit → Act → World → Prop} {S : World → Prop} {T : Nat}
theorem AnyT.any : ∀ (n : Nat) (listed : Array Bool) (a : Act) (w : World), AnyT P md ops Q S T n listed a w → wpAny P md ops Q n listed a w
  | 0, _, _, _, h => h
  | n + 1, _, _, _, h => ⟨h.1, fun i hi => wpOp_mono (fun _ _ h' => AnyT.any n _ _ _ h'.2) (h.2 i hi)⟩
def waitsFor (md : Region.Mode) (ops : Array Oper) (T i : Nat) : Bool := match ops[T]? with | none => true | some o => o.after.any fun e => Region.binds md e && e.on == i
theorem AnyT.first {i : Nat} {oi : Oper} {v : Value} (hi : ops[i]? = some oi) (hsel : ∀ (j : Nat) (o : Oper) cs b, ops[j]? = some o → o.op ≠ .select cs b)
    (hQ : ∀ c a w, Q (.panic c) (a.put oi.dst v) w → Q (.panic c) a w) (hT : waitsFor md ops T i = true) :
    ∀ (n : Nat) (listed : Array Bool) (a : Act) (w : World),
      (∀ j oj, ops[j]? = some oj → j ≠ i → listed.getD j true = false → (∀ e ∈ oj.after, Region.binds md e = true → e.on ≠ i) → oi.apart ops oj = true) →
      i ∈ Region.ready md ops listed → YieldsIf P ops S oi v a → S w →
      AnyT P md ops Q S T n (listed.setIfInBounds i true) (a.put oi.dst v) w → AnyT P md ops Q S T (n + 1) listed a w := by
  intro n
  induction n with
  | zero =>
    intro listed a w _ hr hy hS H
    refine ⟨fun h => (by rw [h] at hr; cases hr), fun j hj => ?_⟩
    by_cases hji : j = i
    · subst hji
      exact hy.wpOp hi hS ⟨fun _ => hS, H⟩
    · have := ready_mono hj hji
      rw [H.1] at this
      cases this
  | succ n ih =>
    intro listed a w hfree hr hy hS H
    refine ⟨fun h => (by rw [h] at hr; cases hr), fun j hj => ?_⟩
    by_cases hji : j = i
    · subst hji
      exact hy.wpOp hi hS ⟨fun _ => hS, H⟩
    · have h1 := H.2 j (ready_mono hj hji)
      obtain ⟨hjun, oj, hoj, hall⟩ := mem_ready.1 hj
      have hun := (mem_ready.1 hr).1
      have hnl : listed.getD i false ≠ true := by
        intro hc
        rcases Nat.lt_or_ge i listed.size with h' | h'
        · simp [h'] at hun hc
          rw [hun] at hc
          cases hc
        · simp [Array.getElem?_eq_none h'] at hc
      have hnot : ∀ e ∈ oj.after, Region.binds md e = true → e.on ≠ i := fun e he hb heq => hnl (by have := hall e he hb; rwa [heq] at this)
      have hjT : j ≠ T := by
        intro e
        subst e
        unfold waitsFor at hT
        rw [hoj] at hT
        simp only [Array.any_eq_true, Bool.and_eq_true, beq_iff_eq] at hT
        obtain ⟨q, hq, hb, hon⟩ := hT
        exact hnot _ (Array.getElem_mem hq) hb hon
      have h2 := wpOp_putIf hoj (hfree j oj hoj hji hjun hnot) (fun cs b => hsel i oi cs b hi) (fun cs b => hsel j oj cs b hoj) hQ hy h1
      refine wpOp_mono (fun a' w' h3 => ⟨fun _ => h3.2.1 hjT, ih (listed.setIfInBounds j true) a' w' ?_ (ready_mono hr (Ne.symm hji)) h3.1 (h3.2.1 hjT) ?_⟩) h2
      · intro k ok hk hki hku hno
        refine hfree k ok hk hki ?_ hno
        by_cases hjk : j = k
        · subst hjk; exact hjun
        · rw [Go.getD_set_ne true hjk] at hku; exact hku
      · rw [Array.setIfInBounds_comm _ _ hji]
        exact h3.2.2
theorem takeT {L tl : List Oper} {i : Nat} {oi : Oper} {v : Value} {fuel : Nat} {listed : Array Bool} {a : Act} {w : World} (hd : L.drop i = oi :: tl)
    (hs : Region.noSelect L.toArray = true) (hf : Region.free md L.toArray listed i = true) (hr : (Region.ready md L.toArray listed).contains i = true) (hT : waitsFor md L.toArray T i = true)
    (hQ : ∀ c a w, Q (.panic c) (a.put oi.dst v) w → Q (.panic c) a w) (hw : Region.wanted oi (yielded L.toArray a.tmps) = true) (hy : ∀ u, S u → (execOp a.eval oi).run P u = .ok (.value v) u) (hS : S w)
    (h : AnyT P md L.toArray Q S T fuel (listed.setIfInBounds i true) (a.put oi.dst v) w) : AnyT P md L.toArray Q S T (fuel + 1) listed a w :=
  AnyT.first (at_drop hd) (Region.noSelect_spec hs) hQ hT fuel listed a w (Region.free_spec (at_drop hd) hf) (by simpa using hr) (.inl ⟨hw, hy⟩) hS h
theorem takeT_one {L tl : List Oper} {i : Nat} {oi : Oper} {fuel : Nat} {listed : Array Bool} {a : Act} {w : World} (hd : L.drop i = oi :: tl)
    (hr : Region.ready md L.toArray listed = [i])
    (h : ∀ K' : Act → World → Prop, Shut (∀ a w, (i ≠ T → S w) → AnyT P md L.toArray Q S T fuel (listed.setIfInBounds i true) a w → K' a w) → if Region.wanted oi (yielded L.toArray a.tmps) = true then Oper.wp P oi a w K' Q else K' (a.put oi.dst undef) w) :
    AnyT P md L.toArray Q S T (fuel + 1) listed a w :=
  ⟨fun h0 => absurd (hr ▸ h0) (by simp), fun j hj => by
    rw [hr] at hj
    obtain rfl : j = i := by simpa using hj
    exact wpOp_step (at_drop hd) (fun K' hK => h K' (fun a w hS hW => hK a w ⟨hS, hW⟩))⟩
theorem takeT_done {listed : Array Bool} {a : Act} {w : World} (hr : Region.ready md ops listed = []) (h : Q .normal a w) : ∀ n, AnyT P md ops Q S T n listed a w
  | 0 => ⟨hr, h⟩
  | _ + 1 => ⟨fun _ => h, by rw [hr]; simp⟩
theorem wp_regionT {id : Nat} {a : Act} {w : World} (T : Nat) (S : World → Prop) (hm : P.follows .mixedOrders = true)
    (h : AnyT P .any ops Q S T ops.size (Array.replicate ops.size false) a w.drew) : (Code.region id ops true).wp P Q a w :=
  wp_region_any hm (AnyT.any _ _ _ _ h)
end Go.Proofs.YtohlefnljgkdcabDoor
namespace Go.Proofs.YtohlefnljgkdcabDoor
open Go.RowKit
def filled (l : List Int) (a lo t : Nat) : List Int := (List.range lo).map fun q => if a - t ≤ q ∧ q < a then l.getD (l.length - a + q) 0 else 0
theorem filled_len (l : List Int) (a lo t : Nat) : (filled l a lo t).length = lo := by simp [filled]
theorem filled_zero (l : List Int) (a lo : Nat) : filled l a lo 0 = List.replicate lo 0 := by
  apply List.ext_getElem
  · simp [filled]
  · intro k h1 h2
    simp [filled]
    intro h3 h4
    omega
theorem filled_step (l : List Int) {a lo t : Nat} (ht : t < a) (hl : a ≤ l.length) : (filled l a lo t).set (a - 1 - t) (l.getD (l.length - t - 1) 0) = filled l a lo (t + 1) := by
  apply List.ext_getElem
  · simp [filled]
  · intro k h1 h2
    rw [List.getElem_set]
    simp only [filled, List.getElem_map, List.getElem_range]
    split
    · rename_i e
      subst e
      rw [if_pos (by omega)]
      congr 1
      omega
    · rename_i e
      by_cases hk : a - t ≤ k ∧ k < a
      · rw [if_pos hk, if_pos (by omega)]
      · rw [if_neg hk, if_neg (by omega)]
theorem filled_all (l : List Int) {a lo : Nat} (ha : a ≤ lo) (hl : a ≤ l.length) : filled l a lo a = l.drop (l.length - a) ++ List.replicate (lo - (l.drop (l.length - a)).length) 0 := by
  have hdl : (l.drop (l.length - a)).length = a := by simp; omega
  rw [hdl]
  apply List.ext_getElem
  · simp [filled]; omega
  · intro k h1 h2
    simp only [filled, List.getElem_map, List.getElem_range]
    by_cases hk : k < a
    · rw [if_pos (by omega), List.getElem_append_left (by omega), List.getElem_drop]
      have : l.length - a + k < l.length := by omega
      simp [List.getD, this]
    · rw [if_neg (by omega), List.getElem_append_right (by omega)]
      simp
theorem ints_arr {l : List Int} {i : Nat} {z : Int} (h : l[i]? = some z) : (ints l).toArray[i]? = some (.int .i64 z) := by
  rw [List.getElem?_toArray]; exact ints_at h
theorem OwnVar.setOff {base bs : Nat} {w : World} {V : Key → Value} {s : St} (h : OwnVar base w bs V s) {b j : Nat} (hb : Own.off V s b) (hne : bs ≠ b) (u : Value) : OwnVar base (w.setCell ⟨b, j, none⟩ u) bs V s :=
  ⟨by rw [Below.heap_setCell _ _ _ _ hne]; exact h.var, h.own.setOff (a := ⟨b, j, none⟩) hb u, h.off, h.low⟩
theorem cell_other {w : World} {b i B j : Nat} {v : Value} (h : w.cell? ⟨b, i, none⟩ = some v) (hne : b ≠ B) (u : Value) : (w.setCell ⟨B, j, none⟩ u).cell? ⟨b, i, none⟩ = some v := by
  rw [World.cell?_of_block (w := w)]
  · exact h
  · exact Below.heap_setCell w _ _ _ hne
end Go.Proofs.YtohlefnljgkdcabDoor
