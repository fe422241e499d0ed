/- StateV, StateW -/
import Derived.Test.YtlapliclhfpgkaaDoorRB24
import Derived.Test.YtlapliclhfpgkaaDoorRB32
namespace Go.Proofs.YtlapliclhfpgkaaDoor
open Go.RowKit
def framesLe (l : List Fb) : Bool := l.all fun b => decide (b.frames.length ≤ 6)
def callersB (l : List Fb) (n : Nat) : Bool := l.all fun b => nameB b.caller n
theorem all_take {α : Type} {P : α → Bool} {l : List α} {d : α} (h : ∀ i, i < l.length → P (l.getD i d) = true) : l.all P = true := by
  rw [List.all_eq_true]
  intro x hx
  obtain ⟨i, hi, rfl⟩ := List.getElem_of_mem hx
  simpa [List.getD, hi] using h i hi
theorem all_fails {α : Type} {P : α → Bool} {l : List α} {d : α} {i : Nat} (hi : i < l.length) (h : P (l.getD i d) = false) : l.all P = false := by
  rw [Bool.eq_false_iff]
  intro ha
  have := all_getD (d := d) ha hi
  rw [h] at this
  cases this
set_option maxHeartbeats 4000000 in
set_option maxRecDepth 100000 in
theorem askLimits_any (p : List Fn) (s : St) (v : Value) (w : World) (hj : JudgeV w v p s) (r : Bool) (hr : (decide (s.fibers.length ≤ 5 ∧ s.out.length ≤ 30) && framesLe s.fibers) = r) :
    Calls Tryd.prog 36 #[v] w fun e w' => e = askEnd 2 r ∧ Kept w w' := by
  obtain ⟨vF, vO, vp, vh, rfl, h1, h2, h3, _⟩ := hj
  obtain ⟨of, cf, rfl, hfl, hcell⟩ := h1
  obtain ⟨oo, co, rfl, hol, _⟩ := h2
  have HR := hide hr
  have HC := hide hcell
  clear hr hcell h3
  generalize hN : s.fibers.length = n at *
  generalize hM : s.out.length = m at *
  have HN := hide hN
  clear hN hM
  by_cases c1 : n ≤ 5
  · by_cases c2 : m ≤ 30
    · have d1 : decide ((n : Int) ≤ 5) = true := decide_eq_true (by omega)
      have d2 : decide ((m : Int) ≤ 30) = true := decide_eq_true (by omega)
      have hr := unhide HR
      rw [decide_eq_true ⟨c1, c2⟩, Bool.true_and] at hr
      have HR2 := hide hr
      clear hr HR
      go_enter Tryd.func36, Tryd.ntmps36
      go_wp2_with (go_at_call 53; refine (ask2_ok _ _ _ _ (by simp) (by simp)).mono ?_; rintro e w' ⟨rfl, rfl⟩)
      generalize hw0 : (w.alloc (.cells #[.slice of n cf, .int .i64 s.now, .slice oo m co, vp, vh] 74)).alloc (.cells #[.bool true, .bool true] 4) = w0 at *
      have hk0 : Kept w w0 := by rw [← hw0]; exact ((Kept.refl w).alloc _).alloc _
      have HK0 := hide hk0
      clear hw0 hk0 d1 d2
      go_loopw [20] (fun s20 wr => ∃ k : Nat, k ≤ n ∧ s20 = .int .i64 k ∧ Hid (∀ i, i < k → (s.fibers.getD i Fb.zero).frames.length ≤ 6) ∧ Hid (Kept w0 wr)) (fun s20 _ => n - (intOf s20).toNat)
      case atStart => exact ⟨0, Nat.zero_le _, rfl, (fun i hi => by omega), Kept.refl _⟩
      case round =>
        obtain ⟨k, hkm, rfl, HA, HKr⟩ := hrel
        by_cases hlt : k < n
        · obtain ⟨bf, off, vf, e1, k0, k1, hfr⟩ := (unhide HC) k _ (getD_of_lt s.fibers k Fb.zero (by rw [unhide HN]; exact hlt))
          obtain ⟨ofr, cfr, rfl, hfl2, _⟩ := hfr
          subst e1
          have hk := (unhide HK0).trans (unhide HKr)
          have l0 := hk.cell k0
          have l1 := hk.cell k1
          have HKW := hide hk
          generalize hq : (s.fibers.getD k Fb.zero).frames.length = q at *
          generalize (s.fibers.getD k Fb.zero).caller = c at *
          have HQ := hide hq
          clear hk k0 k1 hq
          by_cases hq6 : q ≤ 6
          · have d1 : decide ((q : Int) ≤ 6) = true := decide_eq_true (by omega)
            go_wp2_with (go_at_call 53; refine (ask1_ok _ _ _ _ (by simp)).mono ?_; rintro e w' ⟨rfl, rfl⟩)
            go_roundw
            case rel =>
              refine ⟨k + 1, by omega, by go_num, ?_, hide (((unhide HKr).alloc _).alloc _)⟩
              intro i hi
              by_cases e : i = k
              · subst e; rw [unhide HQ]; exact hq6
              · exact (unhide HA) i (by omega)
            case measure => simp [intOf]; omega
          · have d1 : decide ((q : Int) ≤ 6) = false := decide_eq_false (by omega)
            have hrf : r = false := by
              rw [← unhide HR2]
              exact all_fails (d := Fb.zero) (i := k) (by rw [unhide HN]; exact hlt) (by rw [unhide HQ]; exact decide_eq_false hq6)
            subst hrf
            clear hq6
            go_wp2_with (go_at_call 53; refine (ask1_no _ _ _ _ (by simp)).mono ?_; rintro e w' ⟨rfl, rfl⟩; dsimp only [left])
            exact ⟨rfl, rfl, ((unhide HKW).alloc _).alloc _⟩
        · have hrt : r = true := by
            rw [← unhide HR2]
            exact all_take (d := Fb.zero) (fun i hi => decide_eq_true ((unhide HA) i (by have := unhide HN; omega)))
          subst hrt
          go_wp2
          go_end0
          exact ⟨rfl, (unhide HK0).trans (unhide HKr)⟩
    · have d1 : decide ((n : Int) ≤ 5) = true := decide_eq_true (by omega)
      have d2 : decide ((m : Int) ≤ 30) = false := decide_eq_false (by omega)
      have hr := unhide HR
      rw [decide_eq_false (fun h => c2 h.2), Bool.false_and] at hr
      subst hr
      go_enter Tryd.func36, Tryd.ntmps36
      go_wp2_with (go_at_call 53; refine (ask2_no' _ _ _ true _ (by simp) (by simp)).mono ?_; rintro e w' ⟨rfl, rfl⟩; dsimp only [left])
      exact ⟨rfl, rfl, ((Kept.refl w).alloc _).alloc _⟩
  · have d1 : decide ((n : Int) ≤ 5) = false := decide_eq_false (by omega)
    have hr := unhide HR
    rw [decide_eq_false (fun h => c1 h.1), Bool.false_and] at hr
    subst hr
    by_cases c2 : m ≤ 30
    · have d2 : decide ((m : Int) ≤ 30) = true := decide_eq_true (by omega)
      go_enter Tryd.func36, Tryd.ntmps36
      go_wp2_with (go_at_call 53; refine (ask2_no _ _ _ true _ (by simp) (by simp)).mono ?_; rintro e w' ⟨rfl, rfl⟩; dsimp only [left])
      exact ⟨rfl, rfl, ((Kept.refl w).alloc _).alloc _⟩
    · have d2 : decide ((m : Int) ≤ 30) = false := decide_eq_false (by omega)
      go_enter Tryd.func36, Tryd.ntmps36
      go_wp2_with (go_at_call 53; refine (ask2_no _ _ _ false _ (by simp) (by simp)).mono ?_; rintro e w' ⟨rfl, rfl⟩; dsimp only [left])
      exact ⟨rfl, rfl, ((Kept.refl w).alloc _).alloc _⟩
def numEnd (s : St) : Ending := if 0 < s.fibers.length then askEnd 3 (nameB s.now s.fibers.length && callersB s.fibers s.fibers.length) else left 5
set_option maxHeartbeats 4000000 in
set_option maxRecDepth 100000 in
theorem askNumbers_any (p : List Fn) (s : St) (v : Value) (w : World) (hj : JudgeV w v p s) (hl6 : s.fibers.length ≤ 1000) :
    Calls Tryd.prog 37 #[v] w fun e w' => e = numEnd s ∧ Kept w w' := by
  have hmn : ∀ (n : Int) (u : World), Kept w u → Calls Tryd.prog 54 #[v, .int .i64 n] u fun e w' => e = .returned (.bool (nameB n s.fibers.length)) ∧ Kept u w' := fun n u hu => mayName_any p s v n u (hj.kept hu)
  obtain ⟨vF, vO, vp, vh, rfl, h1, h2, h3, _⟩ := hj
  obtain ⟨of, cf, rfl, hfl, hcell⟩ := h1
  have HMN := hide hmn
  have HC := hide hcell
  clear hmn hcell h3 h2
  generalize hN : s.fibers.length = n at *
  have HN := hide hN
  generalize hr : numEnd s = R
  have HR := hide hr
  unfold numEnd at hr
  rw [hN] at hr
  clear hN HR
  by_cases c1 : 0 < n
  · have d1 : decide ((0 : Int) < (n : Int)) = true := decide_eq_true (by omega)
    rw [if_pos c1] at hr
    by_cases c2 : nameB s.now n = true
    · rw [c2, Bool.true_and] at hr
      have HR := hide hr
      have hm1 := (unhide HMN) s.now
      rw [c2] at hm1
      have HM1 := hide hm1
      clear hr hm1
      go_enter Tryd.func37, Tryd.ntmps37
      go_wp2_with (first | (go_at_call 53; refine (ask1_ok _ _ _ _ (by simp)).mono ?_; rintro e w' ⟨rfl, rfl⟩) | (go_at_call 54; refine ((unhide HM1) _ (by repeat (first | exact Kept.refl _ | refine Kept.alloc ?_ _))).mono ?_; rintro e w1 ⟨rfl, hk1⟩; have x0 : w1.cell? ⟨w.heap.size, 0, none⟩ = some (.slice of n cf) := hk1.cell (by simp); have x1 : w1.cell? ⟨w.heap.size, 1, none⟩ = some (.int .i64 s.now) := hk1.cell (by simp); have x2 : w1.cell? ⟨w.heap.size, 2, none⟩ = some vO := hk1.cell (by simp); have x3 : w1.cell? ⟨w.heap.size, 3, none⟩ = some vp := hk1.cell (by simp); have x4 : w1.cell? ⟨w.heap.size, 4, none⟩ = some vh := hk1.cell (by simp); have lw : w.heap.size < w1.heap.size := cell_lt x0; have HK1 : Hid (Kept w w1) := hide (Kept.trans (by repeat (first | exact Kept.refl _ | refine Kept.alloc ?_ _)) hk1); clear hk1))
      generalize hw0 : w1.alloc (.cells #[.bool true] 4) = w0 at *
      have hk0 : Kept w1 w0 := by rw [← hw0]; exact (Kept.refl w1).alloc _
      have y0 := hk0.cell x0
      have y1 := hk0.cell x1
      have y2 := hk0.cell x2
      have y3 := hk0.cell x3
      have y4 := hk0.cell x4
      have HY : Hid (∀ u, Kept w0 u → u.cell? ⟨w.heap.size, 0, none⟩ = some (.slice of n cf) ∧ u.cell? ⟨w.heap.size, 1, none⟩ = some (.int .i64 s.now) ∧ u.cell? ⟨w.heap.size, 2, none⟩ = some vO ∧ u.cell? ⟨w.heap.size, 3, none⟩ = some vp ∧ u.cell? ⟨w.heap.size, 4, none⟩ = some vh) :=
        hide (fun u hu => ⟨hu.cell y0, hu.cell y1, hu.cell y2, hu.cell y3, hu.cell y4⟩)
      have HK0 := hide ((unhide HK1).trans hk0)
      clear hw0 hk0 d1 x0 x1 x2 x3 x4 y0 y1 y2 y3 y4 lw HK1
      go_loopw [22] (fun s22 wr => ∃ k : Nat, k ≤ n ∧ s22 = .int .i64 k ∧ Hid (∀ i, i < k → nameB (s.fibers.getD i Fb.zero).caller n = true) ∧ Hid (Kept w0 wr)) (fun s22 _ => n - (intOf s22).toNat)
      case atStart => exact ⟨0, Nat.zero_le _, rfl, (fun i hi => by omega), Kept.refl _⟩
      case round =>
        obtain ⟨k, hkm, rfl, HA, HKr⟩ := hrel
        by_cases hlt : k < n
        · obtain ⟨bf, off, vf, e1, k0, k1, hfr⟩ := (unhide HC) k _ (getD_of_lt s.fibers k Fb.zero (by rw [unhide HN]; exact hlt))
          obtain ⟨ofr, cfr, rfl, _, _⟩ := hfr
          subst e1
          have hk := (unhide HK0).trans (unhide HKr)
          have l0 := hk.cell k0
          have l1 := hk.cell k1
          obtain ⟨y0, y1, y2, y3, y4⟩ := (unhide HY) _ (unhide HKr)
          have ll := cell_lt y0
          simp only at ll
          have hm2 := (unhide HMN) (s.fibers.getD k Fb.zero).caller
          have HKW := hide hk
          generalize hq : (s.fibers.getD k Fb.zero).caller = c at *
          have HQ := hide hq
          clear k0 k1 hq
          by_cases hq6 : nameB c n = true
          · rw [hq6] at hm2
            have HM2 := hide hm2
            clear hm2 hk
            go_wp2_with (first | (go_at_call 53; refine (ask1_ok _ _ _ _ (by simp)).mono ?_; rintro e w' ⟨rfl, rfl⟩) | (go_at_call 54; refine ((unhide HM2) _ (Kept.trans (unhide HKW) (by repeat (first | exact Kept.refl _ | refine Kept.alloc ?_ _)))).mono ?_; rintro e w2 ⟨rfl, hk2⟩))
            go_roundw
            case rel =>
              refine ⟨k + 1, by omega, by go_num, ?_, hide ((Kept.trans (Kept.trans (unhide HKr) (by repeat (first | exact Kept.refl _ | refine Kept.alloc ?_ _))) hk2).alloc _)⟩
              intro i hi
              by_cases e : i = k
              · subst e; rw [unhide HQ]; exact hq6
              · exact (unhide HA) i (by omega)
            case measure => simp [intOf]; omega
          · have hqf : nameB c n = false := by simpa using hq6
            rw [hqf] at hm2
            have HM2 := hide hm2
            have hrf : askEnd 3 false = R := by
              rw [← unhide HR]
              have : callersB s.fibers n = false := all_fails (d := Fb.zero) (i := k) (by rw [unhide HN]; exact hlt) (by rw [unhide HQ]; exact hqf)
              rw [this]
            subst hrf
            clear hm2 hk hq6 hqf HR
            go_wp2_with (first | (go_at_call 53; refine (ask1_no _ _ _ _ (by simp)).mono ?_; rintro e w' ⟨rfl, rfl⟩; dsimp only [left]) | (go_at_call 54; refine ((unhide HM2) _ (Kept.trans (unhide HKW) (by repeat (first | exact Kept.refl _ | refine Kept.alloc ?_ _)))).mono ?_; rintro e w2 ⟨rfl, hk2⟩))
            exact ⟨rfl, rfl, (Kept.trans (Kept.trans (unhide HKW) (by repeat (first | exact Kept.refl _ | refine Kept.alloc ?_ _))) hk2).alloc _⟩
        · have hrt : askEnd 3 true = R := by
            rw [← unhide HR]
            have : callersB s.fibers n = true := all_take (d := Fb.zero) (fun i hi => (unhide HA) i (by have := unhide HN; omega))
            rw [this]
          subst hrt
          go_wp2
          go_end0
          exact ⟨rfl, (unhide HK0).trans (unhide HKr)⟩
    · have c2f : nameB s.now n = false := by simpa using c2
      rw [c2f, Bool.false_and] at hr
      subst hr
      have hm1 := (unhide HMN) s.now
      rw [c2f] at hm1
      have HM1 := hide hm1
      clear hm1 c2 c2f
      go_enter Tryd.func37, Tryd.ntmps37
      go_wp2_with fail
      refine (ask1_ok _ _ _ _ (by simp)).mono ?_
      rintro e w' ⟨rfl, rfl⟩
      go_wp2_with fail
      refine ((unhide HM1) _ (by repeat (first | exact Kept.refl _ | refine Kept.alloc ?_ _))).mono ?_
      rintro e w1 ⟨rfl, hk1⟩
      go_wp2_with fail
      refine (ask1_no _ _ _ _ (by simp)).mono ?_
      rintro e w' ⟨rfl, rfl⟩
      dsimp only [left]
      exact ⟨rfl, rfl, (Kept.trans (by repeat (first | exact Kept.refl _ | refine Kept.alloc ?_ _)) hk1).alloc _⟩
  · have d1 : decide ((0 : Int) < (n : Int)) = false := decide_eq_false (by omega)
    rw [if_neg c1] at hr
    subst hr
    go_enter Tryd.func37, Tryd.ntmps37
    go_wp2_with (go_at_call 53; refine (ask1_no _ _ _ _ (by simp)).mono ?_; rintro e w' ⟨rfl, rfl⟩; dsimp only [left])
    exact ⟨rfl, rfl, ((Kept.refl w).alloc _).alloc _⟩
end Go.Proofs.YtlapliclhfpgkaaDoor
namespace Go.Proofs.YtlapliclhfpgkaaDoor
open Go.RowKit
set_option maxHeartbeats 16000000 in
set_option maxRecDepth 100000 in
theorem askFrames_any (p : List Fn) (s : St) (v : Value) (w : World) (hj : JudgeV w v p s) (hl : HLen p) (r : Bool) (hr : (s.fibers.all fun b => b.frames.all (frameB p)) = r) :
    Calls Tryd.prog 38 #[v] w fun e w' => e = askEnd 1 r ∧ Kept w w' := by
  have hh : ∀ (u : Value) (x : Fr) (y : World), Kept w y → FrV y u x → InFrame p x → Calls Tryd.prog 56 #[v, u] y fun e w' => e = .returned (.int .i64 (hAt p x)) ∧ Kept y w' := fun u x y hy hx hin => height_any p s v u x y (hj.kept hy) hx hl hin
  obtain ⟨vF, vO, vp, vh, rfl, h1, h2, h3, _⟩ := hj
  obtain ⟨of, cf, rfl, hfl, hcell⟩ := h1
  obtain ⟨op, cp, rfl, hpl, hpc⟩ := h3
  have HH := hide hh
  have HC := hide hcell
  have HPC := hide hpc
  have HR := hide hr
  clear hh hcell hpc h2 hr
  generalize hN : s.fibers.length = n at *
  have HN := hide hN
  clear hN
  go_enter Tryd.func38, Tryd.ntmps38
  go_wp2
  generalize hw0 : w.alloc (.cells #[.slice of n cf, .int .i64 s.now, vO, .slice op p.length cp, vh] 74) = w0 at *
  generalize hB : w.heap.size = B0 at *
  have L0 : w0.heap[B0]? = some (.cells #[.slice of n cf, .int .i64 s.now, vO, .slice op p.length cp, vh] 74) := by rw [← hw0]; exact lays_new hB
  have HY : Hid (∀ u, Kept w0 u → u.cell? ⟨B0, 0, none⟩ = some (.slice of n cf) ∧ u.cell? ⟨B0, 1, none⟩ = some (.int .i64 s.now) ∧ u.cell? ⟨B0, 2, none⟩ = some vO ∧ u.cell? ⟨B0, 3, none⟩ = some (.slice op p.length cp) ∧ u.cell? ⟨B0, 4, none⟩ = some vh) :=
    hide (fun u hu => ⟨hu.cell (cell_at L0 rfl), hu.cell (cell_at L0 rfl), hu.cell (cell_at L0 rfl), hu.cell (cell_at L0 rfl), hu.cell (cell_at L0 rfl)⟩)
  have HK0 : Hid (Kept w w0) := by rw [← hw0]; exact hide ((Kept.refl w).alloc _)
  clear hw0 hB L0
  go_loopw [11] (fun s11 wr => ∃ k : Nat, k ≤ n ∧ s11 = .int .i64 k ∧ Hid (∀ i, i < k → (s.fibers.getD i Fb.zero).frames.all (frameB p) = true) ∧ Hid (Kept w0 wr)) (fun s11 _ => n - (intOf s11).toNat)
  case atStart => exact ⟨0, Nat.zero_le _, rfl, (fun i hi => by omega), Kept.refl _⟩
  case round =>
    obtain ⟨k, hkm, rfl, HA, HKr⟩ := hrel
    by_cases hlt : k < n
    · have hki : k < s.fibers.length := by rw [unhide HN]; exact hlt
      obtain ⟨bf, off, vf, e1, k0, k1, hfr⟩ := (unhide HC) k _ (getD_of_lt s.fibers k Fb.zero hki)
      obtain ⟨ofr, cfr, rfl, hfl2, hfc⟩ := hfr
      subst e1
      have hk := (unhide HK0).trans (unhide HKr)
      have l0 := hk.cell k0
      have l1 := hk.cell k1
      have HKI := hide hki
      have HFC := hide hfc
      have HKW := hide hk
      generalize hb : s.fibers.getD k Fb.zero = b at *
      have HB := hide hb
      generalize hq : b.frames.length = q at *
      have HQ := hide hq
      clear hk k0 k1 hb hq hki hfc
      go_wp2
      generalize hw1 : wr.alloc (.cells #[.slice ofr q cfr, .int .i64 b.caller] 62) = w1 at *
      have HK1 : Hid (Kept w0 w1) := by rw [← hw1]; exact hide ((unhide HKr).alloc _)
      clear hw1 l0 l1
      go_loopw [18] (fun s18 wq => ∃ j : Nat, j ≤ q ∧ s18 = .int .i64 j ∧ Hid (∀ i, i < j → frameB p (b.frames.getD i Fr.zero) = true) ∧ Hid (Kept w0 wq)) (fun s18 _ => q - (intOf s18).toNat)
      case atStart => exact ⟨0, Nat.zero_le _, rfl, (fun i hi => by omega), HK1⟩
      case round =>
        obtain ⟨j, hjm, rfl, HJ, HKq⟩ := hrel
        by_cases hjl : j < q
        · have hji : j < b.frames.length := by rw [unhide HQ]; exact hjl
          obtain ⟨bg, og, vl, vs, e2, m0, m1, m2, m3, hvl, hvs⟩ := (unhide HFC) j _ (getD_of_lt b.frames j Fr.zero hji)
          subst e2
          have hkq := (unhide HK0).trans (unhide HKq)
          have HJI := hide hji
          have hfx : Hid (frameB p (b.frames.getD j Fr.zero) = false → r = false) := hide (fun h => by
            rw [← unhide HR]
            have := all_fails (P := frameB p) (d := Fr.zero) (unhide HJI) h
            exact all_fails (d := Fb.zero) (unhide HKI) (by rw [unhide HB]; exact this))
          generalize hx : b.frames.getD j Fr.zero = x at *
          have HX := hide hx
          have hfv : FrV wr (.agg #[.int .i64 x.fn, .int .i64 x.at_, vl, vs]) x := ⟨vl, vs, rfl, hvl.kept hkq, hvs.kept hkq⟩
          have HFV := hide hfv
          obtain ⟨ol, cl, rfl, hnl, -⟩ := hvl
          obtain ⟨os, cs, rfl, hns, -⟩ := hvs
          have q0 := hkq.cell m0
          have q1 := hkq.cell m1
          have q2 := hkq.cell m2
          have q3 := hkq.cell m3
          obtain ⟨y0, y1, y2, y3, y4⟩ := (unhide HY) _ (unhide HKq)
          have ly := cell_lt y0
          simp only at ly
          have HKQ := hide hkq
          generalize hnle : x.locals.length = nl at *
          generalize hnse : x.stack.length = ns at *
          have HNL := hide hnle
          clear hji hx hfv m0 m1 m2 m3 hkq hnle hnse
          by_cases c1 : ixB x.fn p.length = true
          · have hc1 := ixB_iff.1 c1
            obtain ⟨i, hi⟩ : ∃ i : Nat, x.fn = i := ⟨x.fn.toNat, by omega⟩
            have hip : i < p.length := by omega
            obtain ⟨bp, op', cv, e3, f0, f1, f2, hcv⟩ := (unhide HPC) i _ (getD_of_lt p i Fn.zero hip)
            obtain ⟨oc, cc, rfl, hcm, -⟩ := hcv
            subst e3
            have g0 := (unhide HKQ).cell f0
            have g1 := (unhide HKQ).cell f1
            have g2 := (unhide HKQ).cell f2
            have lb := cell_lt g0
            simp only at lb
            have HIF : Hid (∀ u, Calls Tryd.prog 55 #[.int .i64 i, .int .i64 p.length] u fun e w' => e = .returned (.bool true) ∧ u = w') := hide (fun u => by have := sIsIndex_any x.fn p.length u; rwa [c1, hi] at this)
            have hfb := frameB_mk (p := p) (x := x) hi hip
            have HFB := hide hfb
            have HI := hide hi
            have HIP := hide hip
            have hi1 : (i : Int) < (p.length : Int) := by omega
            have hi0 : (0 : Int) ≤ (i : Int) := by omega
            rw [hi] at q0
            generalize har : (p.getD i Fn.zero).args = ar at *
            generalize hlo : (p.getD i Fn.zero).locals = lo at *
            have hme : (p.getD i Fn.zero).code.length = (codeOf p i).length := rfl
            generalize hm : (p.getD i Fn.zero).code.length = m at *
            have HM := hide hme
            have HLO := hide hlo
            clear f0 f1 f2 hfb har hlo hm hme c1 hc1
            clear hip hi
            go_wp2_with (first | (go_at_call 55; refine ((unhide HIF) _).mono ?_; rintro e wI ⟨rfl, rfl⟩) | (go_at_call 53; refine (ask1_ok _ _ _ _ (by simp)).mono ?_; rintro e wC ⟨rfl, rfl⟩))
            generalize hwz : ((wr.alloc (.cells #[.int .i64 i, .int .i64 x.at_, .slice ol nl cl, .slice os ns cs] 64)).alloc (.cells #[.bool true] 4)).alloc (.cells #[.int .i64 ar, .int .i64 lo, .slice oc m cc] 49) = wz at *
            generalize hBX : wr.heap.size = BX at *
            generalize hBF : BX + 1 + 1 = BF at *
            have LX : wz.heap[BX]? = some (.cells #[.int .i64 i, .int .i64 x.at_, .slice ol nl cl, .slice os ns cs] 64) := by rw [← hwz]; exact lays_alloc (lays_alloc (lays_new hBX) _) _
            have LF : wz.heap[BF]? = some (.cells #[.int .i64 ar, .int .i64 lo, .slice oc m cc] 49) := by rw [← hwz]; exact lays_new (by simp [hBX, hBF])
            have HKX : Hid (Kept wr wz) := by rw [← hwz]; exact hide ((((Kept.refl wr).alloc _).alloc _).alloc _)
            have HY9 : Hid (∀ u, Kept wz u → u.cell? ⟨BX, 1, none⟩ = some (.int .i64 x.at_) ∧ u.cell? ⟨BX, 2, none⟩ = some (.slice ol nl cl) ∧ u.cell? ⟨BF, 1, none⟩ = some (.int .i64 lo) ∧ u.cell? ⟨BF, 2, none⟩ = some (.slice oc m cc)) := hide (fun u hu => ⟨hu.cell (cell_at LX rfl), hu.cell (cell_at LX rfl), hu.cell (cell_at LF rfl), hu.cell (cell_at LF rfl)⟩)
            have HYX : Hid (∀ u, Kept wz u → u.cell? ⟨BX, 0, none⟩ = some (.int .i64 i) ∧ u.cell? ⟨BX, 1, none⟩ = some (.int .i64 x.at_) ∧ u.cell? ⟨BX, 2, none⟩ = some (.slice ol nl cl) ∧ u.cell? ⟨BX, 3, none⟩ = some (.slice os ns cs)) := hide (fun u hu => ⟨hu.cell (cell_at LX rfl), hu.cell (cell_at LX rfl), hu.cell (cell_at LX rfl), hu.cell (cell_at LX rfl)⟩)
            have HKZ := hide ((unhide HKQ).trans (unhide HKX))
            clear hwz hBX hBF LX LF q0 q1 q2 q3 g0 g1 g2 y0 y1 y2 y3 y4 ly lb
            by_cases c2 : (nl : Int) = lo
            · have d2 : ((nl : Int) == lo) = true := by rw [beq_iff_eq]; exact c2
              by_cases c3 : ixB x.at_ m = true
              · have HIX : Hid (∀ u, Calls Tryd.prog 55 #[.int .i64 x.at_, .int .i64 m] u fun e w' => e = .returned (.bool true) ∧ u = w') := hide (fun u => by have := sIsIndex_any x.at_ m u; rwa [c3] at this)
                go_region_held2 (fun u => u.cell? ⟨BX, 1, none⟩ = some (.int .i64 x.at_) ∧ u.cell? ⟨BX, 2, none⟩ = some (.slice ol nl cl) ∧ u.cell? ⟨BF, 1, none⟩ = some (.int .i64 lo) ∧ u.cell? ⟨BF, 2, none⟩ = some (.slice oc m cc))
                  (exact (unhide HY9) _ (by repeat (first | exact Kept.refl _ | refine Kept.drew ?_ | refine Kept.alloc ?_ _)))
                  (first | (go_at_call 55; refine ((unhide HIX) _).mono ?_; rintro e wI ⟨rfl, rfl⟩) | (go_at_call 53; refine (ask2_ok _ _ _ _ (by simp) (by simp)).mono ?_; rintro e wC ⟨rfl, rfl⟩))
                have hin : InFrame p x := by
                  have := ixB_iff.1 c3
                  exact ⟨by have := unhide HI; omega, by have := unhide HI; have := unhide HIP; omega, this.1, by rw [unhide HI, Int.toNat_natCast, ← unhide HM]; exact this.2⟩
                have HHX : Hid (∀ u, Kept wz u → Calls Tryd.prog 56 #[.agg #[.slice (some ⟨bf, off, none⟩) n cf, .int .i64 s.now, vO, .slice (some ⟨bp, op', none⟩) p.length cp, vh], .agg #[.int .i64 i, .int .i64 x.at_, .slice ol nl cl, .slice os ns cs]] u fun e w' => e = .returned (.int .i64 (hAt p x)) ∧ Kept u w') := hide (fun u hu => by
                  have := (unhide HH) _ x u ((unhide HKZ).trans hu) ((unhide HFV).kept ((unhide HKX).trans hu)) hin
                  rwa [unhide HI] at this)
                have hfe : frameB p x = decide (0 ≤ hAt p x) := by
                  rw [unhide HFB, unhide HNL, decide_eq_true c2, ← unhide HM, c3, Bool.true_and, Bool.true_and]
                  unfold hAt
                  rw [unhide HI, Int.toNat_natCast]
                have HFE := hide hfe
                clear hin hfe c2 c3 d2 HIX
                generalize hAt p x = z at *
                generalize hwy : (wz.alloc (.cells #[.bool true, .bool true] 4)).drew = wy at *
                have hky : Kept wz wy := by rw [← hwy]; exact ((Kept.refl wz).alloc _).drew
                obtain ⟨y0, y1, y2, y3, y4⟩ := (unhide HY) wy (((unhide HKq).trans (unhide HKX)).trans hky)
                obtain ⟨x0, x1, x2, x3⟩ := (unhide HYX) wy hky
                have HHY := hide ((unhide HHX) wy hky)
                have HKY := hide (((unhide HKq).trans (unhide HKX)).trans hky)
                clear hwy hky HHX HY9 HYX
                by_cases hz : 0 ≤ z
                · have dz : decide (0 ≤ z) = true := decide_eq_true hz
                  have HFT := hide ((unhide HFE).trans dz)
                  go_wp2_with (first | (go_at_call 56; refine (unhide HHY).mono ?_; rintro e w5 ⟨rfl, hk5⟩) | (go_at_call 53; refine (ask1_ok _ _ _ _ (by simp)).mono ?_; rintro e wC ⟨rfl, rfl⟩))
                  go_roundw
                  case rel =>
                    refine ⟨j + 1, by omega, by go_num, ?_, hide ((Kept.trans (unhide HKY) hk5).alloc _)⟩
                    intro i hi
                    by_cases e : i = j
                    · subst e; rw [unhide HX]; exact unhide HFT
                    · exact (unhide HJ) i (by omega)
                  case measure => simp [intOf]; omega
                · have dz : decide (0 ≤ z) = false := decide_eq_false hz
                  have hrf : r = false := (unhide hfx) ((unhide HFE).trans dz)
                  subst hrf
                  clear hz
                  go_wp2_with (first | (go_at_call 56; refine (unhide HHY).mono ?_; rintro e w5 ⟨rfl, hk5⟩) | (go_at_call 53; refine (ask1_no _ _ _ _ (by simp)).mono ?_; rintro e wC ⟨rfl, rfl⟩; dsimp only [left]))
                  exact ⟨rfl, rfl, (Kept.trans (unhide HK0) (Kept.trans (unhide HKY) hk5)).alloc _⟩
              · have c3f : ixB x.at_ m = false := by simpa using c3
                have HIX : Hid (∀ u, Calls Tryd.prog 55 #[.int .i64 x.at_, .int .i64 m] u fun e w' => e = .returned (.bool false) ∧ u = w') := hide (fun u => by have := sIsIndex_any x.at_ m u; rwa [c3f] at this)
                have hrf : r = false := (unhide hfx) (by rw [unhide HFB, ← unhide HM, c3f]; simp)
                subst hrf
                clear c3 c3f
                go_region_held2 (fun u => u.cell? ⟨BX, 1, none⟩ = some (.int .i64 x.at_) ∧ u.cell? ⟨BX, 2, none⟩ = some (.slice ol nl cl) ∧ u.cell? ⟨BF, 1, none⟩ = some (.int .i64 lo) ∧ u.cell? ⟨BF, 2, none⟩ = some (.slice oc m cc))
                  (first | exact hF.elim | exact (unhide HY9) _ (by repeat (first | exact Kept.refl _ | refine Kept.drew ?_ | refine Kept.alloc ?_ _)))
                  (first | (go_at_call 55; refine ((unhide HIX) _).mono ?_; rintro e wI ⟨rfl, rfl⟩) | (go_at_call 53; refine (ask2_no' _ _ _ true _ (by simp) (by simp)).mono ?_; rintro e wC ⟨rfl, rfl⟩; dsimp only [left]; refine (Classical.em False).elim (fun hF => ?_) (fun _ => ⟨rfl, rfl, Kept.trans (unhide HKZ) (by repeat (first | exact Kept.refl _ | refine Kept.drew ?_ | refine Kept.alloc ?_ _))⟩); refine viaK ‹Shut _› hF ⟨#[], []⟩ wz ?_))
                all_goals exact hF.elim
            · have d2 : ((nl : Int) == lo) = false := by rw [beq_eq_false_iff_ne]; exact c2
              have hrf : r = false := (unhide hfx) (by rw [unhide HFB, unhide HNL, decide_eq_false c2]; rfl)
              subst hrf
              clear c2
              by_cases c3 : ixB x.at_ m = true
              · have HIX : Hid (∀ u, Calls Tryd.prog 55 #[.int .i64 x.at_, .int .i64 m] u fun e w' => e = .returned (.bool true) ∧ u = w') := hide (fun u => by have := sIsIndex_any x.at_ m u; rwa [c3] at this)
                go_region_held2 (fun u => u.cell? ⟨BX, 1, none⟩ = some (.int .i64 x.at_) ∧ u.cell? ⟨BX, 2, none⟩ = some (.slice ol nl cl) ∧ u.cell? ⟨BF, 1, none⟩ = some (.int .i64 lo) ∧ u.cell? ⟨BF, 2, none⟩ = some (.slice oc m cc))
                  (first | exact hF.elim | exact (unhide HY9) _ (by repeat (first | exact Kept.refl _ | refine Kept.drew ?_ | refine Kept.alloc ?_ _)))
                  (first | (go_at_call 55; refine ((unhide HIX) _).mono ?_; rintro e wI ⟨rfl, rfl⟩) | (go_at_call 53; refine (ask2_no _ _ _ true _ (by simp) (by simp)).mono ?_; rintro e wC ⟨rfl, rfl⟩; dsimp only [left]; refine (Classical.em False).elim (fun hF => ?_) (fun _ => ⟨rfl, rfl, Kept.trans (unhide HKZ) (by repeat (first | exact Kept.refl _ | refine Kept.drew ?_ | refine Kept.alloc ?_ _))⟩); refine viaK ‹Shut _› hF ⟨#[], []⟩ wz ?_))
                all_goals exact hF.elim
              · have c3f : ixB x.at_ m = false := by simpa using c3
                have HIX : Hid (∀ u, Calls Tryd.prog 55 #[.int .i64 x.at_, .int .i64 m] u fun e w' => e = .returned (.bool false) ∧ u = w') := hide (fun u => by have := sIsIndex_any x.at_ m u; rwa [c3f] at this)
                clear c3 c3f
                go_region_held2 (fun u => u.cell? ⟨BX, 1, none⟩ = some (.int .i64 x.at_) ∧ u.cell? ⟨BX, 2, none⟩ = some (.slice ol nl cl) ∧ u.cell? ⟨BF, 1, none⟩ = some (.int .i64 lo) ∧ u.cell? ⟨BF, 2, none⟩ = some (.slice oc m cc))
                  (first | exact hF.elim | exact (unhide HY9) _ (by repeat (first | exact Kept.refl _ | refine Kept.drew ?_ | refine Kept.alloc ?_ _)))
                  (first | (go_at_call 55; refine ((unhide HIX) _).mono ?_; rintro e wI ⟨rfl, rfl⟩) | (go_at_call 53; refine (ask2_no _ _ _ false _ (by simp) (by simp)).mono ?_; rintro e wC ⟨rfl, rfl⟩; dsimp only [left]; refine (Classical.em False).elim (fun hF => ?_) (fun _ => ⟨rfl, rfl, Kept.trans (unhide HKZ) (by repeat (first | exact Kept.refl _ | refine Kept.drew ?_ | refine Kept.alloc ?_ _))⟩); refine viaK ‹Shut _› hF ⟨#[], []⟩ wz ?_))
                all_goals exact hF.elim
          · have c1f : ixB x.fn p.length = false := by simpa using c1
            have HIF : Hid (∀ u, Calls Tryd.prog 55 #[.int .i64 x.fn, .int .i64 p.length] u fun e w' => e = .returned (.bool false) ∧ u = w') := hide (fun u => by have := sIsIndex_any x.fn p.length u; rwa [c1f] at this)
            have hrf : r = false := (unhide hfx) (by unfold frameB; rw [c1f]; rfl)
            subst hrf
            clear c1 c1f
            go_wp2_with (first | (go_at_call 55; refine ((unhide HIF) _).mono ?_; rintro e wI ⟨rfl, rfl⟩) | (go_at_call 53; refine (ask1_no _ _ _ _ (by simp)).mono ?_; rintro e wC ⟨rfl, rfl⟩; dsimp only [left]))
            exact ⟨rfl, rfl, ((unhide HKQ).alloc _).alloc _⟩
        · have hall : (s.fibers.getD k Fb.zero).frames.all (frameB p) = true := by
            rw [unhide HB]
            exact all_take (d := Fr.zero) (fun i hi => (unhide HJ) i (by have := unhide HQ; omega))
          have HAL := hide hall
          clear hall
          go_wp2
          go_roundw
          case rel =>
            refine ⟨k + 1, by omega, by go_num, ?_, HKq⟩
            intro i hi
            by_cases e : i = k
            · subst e; exact unhide HAL
            · exact (unhide HA) i (by omega)
          case measure => simp [intOf]; omega
    · have hrt : r = true := by
        rw [← unhide HR]
        exact all_take (d := Fb.zero) (fun i hi => (unhide HA) i (by have := unhide HN; omega))
      subst hrt
      go_wp2
      go_end0
      exact ⟨rfl, (unhide HK0).trans (unhide HKr)⟩
end Go.Proofs.YtlapliclhfpgkaaDoor
