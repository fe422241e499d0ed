/-
  The contracts of the reference's frameFine, waits and fresh.
  The contracts of the reference's waits and fresh.
  The program's judge: ask, isIndex, mayName, height.
  The program's judge: isFresh, askWaiting.
-/
import Derived.Test.YtgdcecibfoganabDoorSC16
import Derived.Test.YtgdcecibfoganabDoorSC01
import Derived.Deep.RegionHeld3
import Derived.Defers
import Derived.Recover
import Derived.Deep.DeepCutAuto

namespace Go.Proofs.YtgdcecibfoganabDoor
open Go.RowKit

/-- The reference's heights, of each function of a right program. -/
def HRef (w : World) (vp : Value) (p : List Fn) : Prop := ∀ (k : Nat) (u : World), k < p.length → Kept w u →
  Calls Tryd.prog 38 #[vp, .int .i64 k] u fun e u' => ∃ v, e = .returned (.tuple #[v, .bool true]) ∧ IntsAt u' v (hgt p k) ∧ Kept u u'
theorem HRef.kept {w w' : World} {vp : Value} {p : List Fn} (h : HRef w vp p) (hk : Kept w w') : HRef w' vp p := fun k u hl hu => h k u hl (hk.trans hu)
/-- The heights are as long as the code. -/
def HLen (p : List Fn) : Prop := ∀ k, k < p.length → (hgt p k).length = (codeOf p k).length

theorem within_same (i l n : Int) (w : World) : Calls Tryd.prog 34 #[.int .i64 i, .int .i64 l, .int .i64 n] w fun e w' => e = .returned (.bool (inB i l n)) ∧ w' = w :=
  (within_any i l n w).mono fun _ _ h => ⟨h.1, h.2.symm⟩

set_option maxHeartbeats 2000000 in
set_option maxRecDepth 100000 in
theorem frameFine_off (oa ol os : Option Addr) (n cap nl cl ns cs : Nat) (fn a : Int) (w : World) (hb : inB fn 0 ((n : Int) - 1) = false) (hn : n ≤ 8796093022208) :
    Calls Tryd.prog 71 #[.slice oa n cap, .agg #[.int .i64 fn, .int .i64 a, .slice ol nl cl, .slice os ns cs]] w fun e w' => e = .returned (.bool false) ∧ Kept w w' := by
  go_enter Tryd.func71, Tryd.ntmps71
  go_wp2
  go_quiet ((go_at_call 34; refine Calls.quiet_of_same (within_same _ _ _ _)))
  go_wp2
  go_ret
  exact ⟨rfl, ((Kept.refl w).alloc _).drewN _⟩

set_option maxHeartbeats 4000000 in
set_option maxRecDepth 100000 in
theorem frameFine_locals (b o : Nat) (ol os : Option Addr) (n cap nl cl ns cs i : Nat) (lo a : Int) (w : World) (hi : i < n) (hn : n ≤ 8796093022208)
    (c1 : w.cell? ⟨b, o + i * 3 + 1, none⟩ = some (.int .i64 lo)) (hl : ((nl : Int) != lo) = true) :
    Calls Tryd.prog 71 #[.slice (some ⟨b, o, none⟩) n cap, .agg #[.int .i64 i, .int .i64 a, .slice ol nl cl, .slice os ns cs]] w fun e w' => e = .returned (.bool false) ∧ Kept w w' := by
  have hb : inB (i : Int) 0 ((n : Int) - 1) = true := inB_true (by omega) (by omega)
  have hi1 : (i : Int) < (n : Int) := by omega
  have hi0 : (0 : Int) ≤ (i : Int) := by omega
  have C1 := hide c1
  clear c1
  go_enter Tryd.func71, Tryd.ntmps71
  go_wp2
  generalize hw0 : w.alloc (.cells #[.int .i64 i, .int .i64 a, .slice ol nl cl, .slice os ns cs] 76) = w0 at *
  have x0 : w0.cell? ⟨w.heap.size, 0, none⟩ = some (.int .i64 i) := by rw [← hw0]; simp
  have x2 : w0.cell? ⟨w.heap.size, 2, none⟩ = some (.slice ol nl cl) := by rw [← hw0]; simp
  have hk0 : Kept w w0 := by rw [← hw0]; exact (Kept.refl w).alloc _
  have d1 := hk0.cell (unhide C1)
  have HK0 := hide hk0
  clear hw0 hk0
  go_quiet ((go_at_call 34; refine Calls.quiet_of_same (within_same _ _ _ _)))
  go_wp2
  go_ret
  exact ⟨rfl, (unhide HK0).drewN _⟩

set_option maxHeartbeats 4000000 in
set_option maxRecDepth 100000 in
theorem frameFine_at (b o : Nat) (ol os oc : Option Addr) (n cap nl cl ns cs i m cc : Nat) (a : Int) (w : World) (hi : i < n) (hn : n ≤ 8796093022208) (hm : m ≤ 8796093022208)
    (c1 : w.cell? ⟨b, o + i * 3 + 1, none⟩ = some (.int .i64 nl)) (c2 : w.cell? ⟨b, o + i * 3 + 2, none⟩ = some (.slice oc m cc)) (ha : inB a 0 ((m : Int) - 1) = false) :
    Calls Tryd.prog 71 #[.slice (some ⟨b, o, none⟩) n cap, .agg #[.int .i64 i, .int .i64 a, .slice ol nl cl, .slice os ns cs]] w fun e w' => e = .returned (.bool false) ∧ Kept w w' := by
  have hb : inB (i : Int) 0 ((n : Int) - 1) = true := inB_true (by omega) (by omega)
  have hi1 : (i : Int) < (n : Int) := by omega
  have hi0 : (0 : Int) ≤ (i : Int) := by omega
  have hlb : ((nl : Int) != (nl : Int)) = false := by simp
  have C1 := hide c1
  have C2 := hide c2
  clear c1 c2
  go_enter Tryd.func71, Tryd.ntmps71
  go_wp2
  generalize hw0 : w.alloc (.cells #[.int .i64 i, .int .i64 a, .slice ol nl cl, .slice os ns cs] 76) = w0 at *
  have x0 : w0.cell? ⟨w.heap.size, 0, none⟩ = some (.int .i64 i) := by rw [← hw0]; simp
  have x1 : w0.cell? ⟨w.heap.size, 1, none⟩ = some (.int .i64 a) := by rw [← hw0]; simp
  have x2 : w0.cell? ⟨w.heap.size, 2, none⟩ = some (.slice ol nl cl) := by rw [← hw0]; simp
  have hk0 : Kept w w0 := by rw [← hw0]; exact (Kept.refl w).alloc _
  have d1 := hk0.cell (unhide C1)
  have d2 := hk0.cell (unhide C2)
  have HK0 := hide hk0
  clear hw0 hk0
  go_quiet ((go_at_call 34; refine Calls.quiet_of_same (within_same _ _ _ _)))
  go_wp2
  go_ret
  exact ⟨rfl, (unhide HK0).drewN _⟩

set_option maxHeartbeats 4000000 in
set_option maxRecDepth 100000 in
theorem frameFine_go (b o : Nat) (ol os oc : Option Addr) (n cap nl cl ns cs i m cc a : Nat) (H : List Int) (w : World) (hi : i < n) (hn : n ≤ 8796093022208) (hm : m ≤ 8796093022208)
    (c1 : w.cell? ⟨b, o + i * 3 + 1, none⟩ = some (.int .i64 nl)) (c2 : w.cell? ⟨b, o + i * 3 + 2, none⟩ = some (.slice oc m cc)) (ha : a < m) (hH : H.length = m)
    (hh : ∀ u, Kept w u → Calls Tryd.prog 38 #[.slice (some ⟨b, o, none⟩) n cap, .int .i64 i] u fun e u' => ∃ v, e = .returned (.tuple #[v, .bool true]) ∧ IntsAt u' v H ∧ Kept u u') :
    Calls Tryd.prog 71 #[.slice (some ⟨b, o, none⟩) n cap, .agg #[.int .i64 i, .int .i64 a, .slice ol nl cl, .slice os ns cs]] w fun e w' => e = .returned (.bool (decide (0 ≤ H.getD a 0))) ∧ Kept w w' := by
  generalize hr : decide (0 ≤ H.getD a 0) = r
  have HR := hide hr
  clear hr
  have hb : inB (i : Int) 0 ((n : Int) - 1) = true := inB_true (by omega) (by omega)
  have ha' : inB (a : Int) 0 ((m : Int) - 1) = true := inB_true (by omega) (by omega)
  have HH := hide hh
  clear hh
  have hi1 : (i : Int) < (n : Int) := by omega
  have hi0 : (0 : Int) ≤ (i : Int) := by omega
  have hlb : ((nl : Int) != (nl : Int)) = false := by simp
  have C1 := hide c1
  have C2 := hide c2
  clear c1 c2
  go_enter Tryd.func71, Tryd.ntmps71
  go_wp2
  generalize hw0 : w.alloc (.cells #[.int .i64 i, .int .i64 a, .slice ol nl cl, .slice os ns cs] 76) = w0 at *
  have x0 : w0.cell? ⟨w.heap.size, 0, none⟩ = some (.int .i64 i) := by rw [← hw0]; simp
  have x1 : w0.cell? ⟨w.heap.size, 1, none⟩ = some (.int .i64 a) := by rw [← hw0]; simp
  have x2 : w0.cell? ⟨w.heap.size, 2, none⟩ = some (.slice ol nl cl) := by rw [← hw0]; simp
  have hk0 : Kept w w0 := by rw [← hw0]; exact (Kept.refl w).alloc _
  have d1 := hk0.cell (unhide C1)
  have d2 := hk0.cell (unhide C2)
  have HK0 := hide hk0
  have X1 := hide x1
  clear hw0 hk0
  go_quiet ((go_at_call 34; refine Calls.quiet_of_same (within_same _ _ _ _)))
  go_wp2_with fail
  refine ((unhide HH) _ ((unhide HK0).drewN _)).mono ?_
  rintro e w1 ⟨v, rfl, hv, hk1⟩
  obtain ⟨oh, ch, rfl, _, hcell⟩ := hv
  obtain ⟨bh, o2, rfl, e0⟩ := hcell a _ (getD_of_lt H a 0 (by omega))
  have y1 := hk1.cell (unhide X1)
  have HK1 := hide (((unhide HK0).drewN _).trans hk1)
  rw [hH]
  have ha1 : (a : Int) < (m : Int) := by omega
  have ha0 : (0 : Int) ≤ (a : Int) := by omega
  clear hcell hk1 x0 x1 x2 d1 d2 HK0 X1
  generalize H.getD a 0 = z at *
  by_cases hz : 0 ≤ z
  · have hrt := unhide HR
    rw [decide_eq_true hz] at hrt
    subst hrt
    go_wp2
    go_ret
    exact ⟨rfl, unhide HK1⟩
  · have hrt := unhide HR
    rw [decide_eq_false hz] at hrt
    subst hrt
    have hzd : decide (0 ≤ z) = false := decide_eq_false hz
    go_wp2
    go_ret
    exact ⟨by rw [← hzd]; rfl, unhide HK1⟩

theorem frameB_mk {p : List Fn} {x : Fr} {i : Nat} (hf : x.fn = i) (hi : i < p.length) : frameB p x = (decide ((x.locals.length : Int) = (p.getD i Fn.zero).locals) && (ixB x.at_ (codeOf p i).length && decide (0 ≤ (hgt p i).getD x.at_.toNat 0))) := by
  unfold frameB hAt
  rw [hf, ixB_true (by omega) (by omega), Bool.true_and, Int.toNat_natCast]

theorem frameFine_any (p : List Fn) (vp v : Value) (x : Fr) (w : World) (hp : ProgAt w vp p) (hx : FrV w v x) (hh : HRef w vp p) (hl : HLen p) :
    Calls Tryd.prog 71 #[vp, v] w fun e w' => e = .returned (.bool (frameB p x)) ∧ Kept w w' := by
  obtain ⟨vl, vs, rfl, h1, h2⟩ := hx
  obtain ⟨ol, cl, rfl, _, _⟩ := h1
  obtain ⟨os, cs, rfl, _, _⟩ := h2
  obtain ⟨oa, cap, rfl, hpl, hcell⟩ := id hp
  by_cases hf : 0 ≤ x.fn ∧ x.fn < p.length
  · obtain ⟨i, hi⟩ : ∃ i : Nat, x.fn = i := ⟨x.fn.toNat, by omega⟩
    have hip : i < p.length := by omega
    obtain ⟨b, o, cv, rfl, c0, c1, c2, hc⟩ := hcell i _ (getD_of_lt p i Fn.zero hip)
    obtain ⟨oc, cc, rfl, hm, _⟩ := hc
    rw [frameB_mk hi hip, hi]
    by_cases hlo : (x.locals.length : Int) = (p.getD i Fn.zero).locals
    · rw [decide_eq_true hlo, Bool.true_and]
      rw [← hlo] at c1
      by_cases ha : 0 ≤ x.at_ ∧ x.at_ < (codeOf p i).length
      · obtain ⟨a, ha'⟩ : ∃ a : Nat, x.at_ = a := ⟨x.at_.toNat, by omega⟩
        rw [ixB_true ha.1 ha.2, Bool.true_and, ha', Int.toNat_natCast]
        exact frameFine_go b o ol os oc _ cap _ cl _ cs i _ cc a (hgt p i) w hip hpl hm c1 c2 (by have := ha.2; unfold codeOf at this; omega) (hl i hip) (fun u hu => hh i u hip hu)
      · rw [ixB_false ha, Bool.false_and]
        exact frameFine_at b o ol os oc _ cap _ cl _ cs i _ cc _ w hip hpl hm c1 c2 (inB_false (fun h => ha ⟨h.1, by have := h.2; unfold codeOf; omega⟩))
    · rw [decide_eq_false hlo, Bool.false_and]
      exact frameFine_locals b o ol os _ cap _ cl _ cs i _ _ w hip hpl c1 (by rw [bne_iff_ne]; exact hlo)
  · have : frameB p x = false := by unfold frameB; rw [ixB_false hf]; rfl
    rw [this]
    exact frameFine_off oa ol os _ cap _ cl _ cs _ _ w (inB_false (fun h => hf ⟨h.1, by omega⟩)) hpl

/-- A frame whose function and At are there. -/
structure InFrame (p : List Fn) (x : Fr) : Prop where
  fn0 : 0 ≤ x.fn
  fn1 : x.fn < p.length
  at0 : 0 ≤ x.at_
  at1 : x.at_ < (codeOf p x.fn.toNat).length
theorem InFrame.of {p : List Fn} {x : Fr} (h : frameB p x = true) : InFrame p x := by
  simp only [frameB, Bool.and_eq_true, ixB_iff, decide_eq_true_eq] at h
  exact ⟨h.1.1, h.1.2, h.2.2.1.1, h.2.2.1.2⟩
end Go.Proofs.YtgdcecibfoganabDoor

namespace Go.Proofs.YtgdcecibfoganabDoor
open Go.RowKit

theorem wrap_tiny (a : Int) (h1 : -17592186044416 ≤ a) (h2 : a ≤ 17592186044416) : IntKind.i64.wrap a = a := by
  rw [IntKind.wrap_i64]
  omega

set_option maxHeartbeats 4000000 in
set_option maxRecDepth 100000 in
theorem waits_go (b o bc co : Nat) (ol os : Option Addr) (n cap nl cl ns cs i m cc a : Nat) (x : Int × Int) (kd ofn : Int) (H : List Int) (w : World) (hi : i < n) (_hn : n ≤ 8796093022208) (hm : m ≤ 8796093022208) (_hns : ns ≤ 17592186043904)
    (c2 : w.cell? ⟨b, o + i * 3 + 2, none⟩ = some (.slice (some ⟨bc, co, none⟩) m cc)) (ha : a + 1 < m) (hH : H.length = m) (hb : -1000 ≤ H.getD (a + 1) 0 ∧ H.getD (a + 1) 0 ≤ 1000)
    (k0 : w.cell? ⟨bc, co + a * 2, none⟩ = some (.int .i64 x.1)) (k1 : w.cell? ⟨bc, co + a * 2 + 1, none⟩ = some (.int .i64 x.2))
    (hh : ∀ u, Kept w u → Calls Tryd.prog 38 #[.slice (some ⟨b, o, none⟩) n cap, .int .i64 i] u fun e u' => ∃ v, e = .returned (.tuple #[v, .bool true]) ∧ IntsAt u' v H ∧ Kept u u') (r : Bool)
    (hr : (decide ((ns : Int) = H.getD (a + 1) 0 - 1) && (decide (x.1 = kd) && (!decide (kd = 11) || decide (x.2 = ofn)))) = r) :
    Calls Tryd.prog 72 #[.slice (some ⟨b, o, none⟩) n cap, .agg #[.int .i64 i, .int .i64 ((a : Int) + 1), .slice ol nl cl, .slice os ns cs], .int .i64 kd, .int .i64 ofn] w fun e w' => e = .returned (.bool r) ∧ Kept w w' := by
  have HR := hide hr
  have HH := hide hh
  have HX := hide (show ∀ u, Kept w u → u.cell? ⟨b, o + i * 3 + 2, none⟩ = some (.slice (some ⟨bc, co, none⟩) m cc) ∧ u.cell? ⟨bc, co + a * 2, none⟩ = some (.int .i64 x.1) ∧ u.cell? ⟨bc, co + a * 2 + 1, none⟩ = some (.int .i64 x.2) from fun u hu => ⟨hu.cell c2, hu.cell k0, hu.cell k1⟩)
  clear hh hr c2 k0 k1
  have hi1 : (i : Int) < (n : Int) := by omega
  have hi0 : (0 : Int) ≤ (i : Int) := by omega
  go_enter Tryd.func72, Tryd.ntmps72
  go_wp2_with fail
  refine ((unhide HH) _ ((Kept.refl w).alloc _)).mono ?_
  rintro e w1 ⟨v, rfl, hv, hk1⟩
  obtain ⟨oh, ch, rfl, _, hcell⟩ := hv
  obtain ⟨bh, o2, rfl, e0⟩ := hcell (a + 1) _ (getD_of_lt H (a + 1) 0 (by omega))
  have y0 := hk1.cell (show (w.alloc (.cells #[.int .i64 i, .int .i64 ((a : Int) + 1), .slice ol nl cl, .slice os ns cs] 76)).cell? ⟨w.heap.size, 0, none⟩ = some (.int .i64 i) by simp)
  have y1 := hk1.cell (show (w.alloc (.cells #[.int .i64 i, .int .i64 ((a : Int) + 1), .slice ol nl cl, .slice os ns cs] 76)).cell? ⟨w.heap.size, 1, none⟩ = some (.int .i64 ((a : Int) + 1)) by simp)
  have y3 := hk1.cell (show (w.alloc (.cells #[.int .i64 i, .int .i64 ((a : Int) + 1), .slice ol nl cl, .slice os ns cs] 76)).cell? ⟨w.heap.size, 3, none⟩ = some (.slice os ns cs) by simp)
  have hkk := ((Kept.refl w).alloc _).trans hk1
  obtain ⟨d2, f0, f1⟩ := (unhide HX) _ hkk
  have HK1 := hide hkk
  rw [hH]
  have ha1 : (a : Int) + 1 < (m : Int) := by omega
  have haz : (0 : Int) ≤ (a : Int) + 1 := by omega
  have hab : ((a : Int) + 1 == 0) = false := by rw [beq_eq_false_iff_ne]; omega
  have hap : (a : Int) + 1 - 1 = (a : Int) := by omega
  have hat : ((a : Int) + 1).toNat = a + 1 := by omega
  have ha2 : (a : Int) < (m : Int) := by omega
  clear hcell hk1 hkk HH HX
  generalize H.getD (a + 1) 0 = z at *
  obtain ⟨hb1, hb2⟩ := hb
  by_cases hz : (ns : Int) = z - 1
  · have hzb : ((ns : Int) != z - 1) = false := by rw [hz]; simp
    have HZ := hide hz
    clear hz
    go_wp2
    go_quiet (fail)
    have hwr : IntKind.i64.wrap (a : Int) = a := wrap_tiny a (by omega) (by omega)
    go_wp2_with fail
    generalize hw2 : w1.drewN nq = w2
    have hk2 : Kept w1 w2 := by rw [← hw2]; exact (Kept.refl w1).drewN _
    have z0 := hk2.cell y0
    have z1 := hk2.cell y1
    have z2 := hk2.cell d2
    have z3 := hk2.cell f0
    have z4 := hk2.cell f1
    have HK2 := hide ((unhide HK1).trans hk2)
    have l0 := cell_lt z0
    have l1 := cell_lt z2
    have l2 := cell_lt z3
    simp only at l0 l1 l2
    clear hw2 hk2 y0 y1 y3 d2 f0 f1 e0 HK1
    go_region
    all_goals go_wp2_with fail
    all_goals go_ret
    all_goals (refine ⟨?_, ((unhide HK2).alloc _).drew⟩; have hr := unhide HR; rw [decide_eq_true (unhide HZ), Bool.true_and] at hr; subst hr; first | (simp [*]; done) | (simp [*]; rfl))
  · have hzb : ((ns : Int) != z - 1) = true := by rw [bne_iff_ne]; exact hz
    have HZ := hide hz
    clear hz
    go_wp2
    go_quiet (fail)
    go_wp2
    go_ret
    refine ⟨?_, (unhide HK1).drewN _⟩
    have hr := unhide HR
    rw [decide_eq_false (unhide HZ), Bool.false_and] at hr
    rw [← hr]; rfl

set_option maxHeartbeats 4000000 in
set_option maxRecDepth 100000 in
theorem waits_first (b o : Nat) (ol os : Option Addr) (n cap nl cl ns cs i : Nat) (kd ofn : Int) (H : List Int) (w : World)
    (hh : ∀ u, Kept w u → Calls Tryd.prog 38 #[.slice (some ⟨b, o, none⟩) n cap, .int .i64 i] u fun e u' => ∃ v, e = .returned (.tuple #[v, .bool true]) ∧ IntsAt u' v H ∧ Kept u u') :
    Calls Tryd.prog 72 #[.slice (some ⟨b, o, none⟩) n cap, .agg #[.int .i64 i, .int .i64 0, .slice ol nl cl, .slice os ns cs], .int .i64 kd, .int .i64 ofn] w fun e w' => e = .returned (.bool false) ∧ Kept w w' := by
  have HH := hide hh
  clear hh
  go_enter Tryd.func72, Tryd.ntmps72
  go_wp2_with fail
  refine ((unhide HH) _ ((Kept.refl w).alloc _)).mono ?_
  rintro e w1 ⟨v, rfl, hv, hk1⟩
  have y1 := hk1.cell (show (w.alloc (.cells #[.int .i64 i, .int .i64 0, .slice ol nl cl, .slice os ns cs] 76)).cell? ⟨w.heap.size, 1, none⟩ = some (.int .i64 0) by simp)
  have HK1 := hide (((Kept.refl w).alloc _).trans hk1)
  clear hv hk1 HH
  go_wp2
  go_quiet (fail)
  go_wp2
  go_ret
  exact ⟨rfl, (unhide HK1).drewN _⟩

theorem waits_any (p : List Fn) (vp v : Value) (x : Fr) (kd ofn : Int) (w : World) (hp : ProgAt w vp p) (hx : FrV w v x) (hh : HRef w vp p) (hl : HLen p) (hin : InFrame p x) (hb : ∀ k a, k < p.length → -1000 ≤ (hgt p k).getD a 0 ∧ (hgt p k).getD a 0 ≤ 1000) :
    Calls Tryd.prog 72 #[vp, v, .int .i64 kd, .int .i64 ofn] w fun e w' => e = .returned (.bool (waitB p x kd ofn)) ∧ Kept w w' := by
  obtain ⟨vl, vs, rfl, h1, h2⟩ := hx
  obtain ⟨ol, cl, rfl, _, _⟩ := h1
  obtain ⟨os, cs, rfl, hs, _⟩ := h2
  obtain ⟨oa, cap, rfl, hpl, hcell⟩ := id hp
  obtain ⟨f0, f1, a0, a1⟩ := hin
  obtain ⟨i, hi⟩ : ∃ i : Nat, x.fn = i := ⟨x.fn.toNat, by omega⟩
  have hip : i < p.length := by omega
  rw [hi, Int.toNat_natCast] at a1
  obtain ⟨b, o, cv, rfl, c0, c1, c2, hc⟩ := hcell i _ (getD_of_lt p i Fn.zero hip)
  obtain ⟨oc, cc, rfl, hm, hcc⟩ := hc
  obtain ⟨a, ha⟩ : ∃ a : Nat, x.at_ = a := ⟨x.at_.toNat, by omega⟩
  unfold waitB hAt opAhead
  rw [hi, ha, Int.toNat_natCast, Int.toNat_natCast]
  cases a with
  | zero => exact waits_first b o ol os _ cap x.locals.length cl x.stack.length cs i kd ofn (hgt p i) w (fun u hu => hh i u hip hu)
  | succ a =>
    have hlt : a < (codeOf p i).length := by omega
    obtain ⟨bc, co, rfl, k0, k1⟩ := hcc a _ (getD_of_lt (codeOf p i) a (0, 0) hlt)
    have := waits_go b o bc co ol os p.length cap x.locals.length cl x.stack.length cs i _ cc a ((codeOf p i).getD a (0, 0)) kd ofn (hgt p i) w hip hpl hm hs c2 (by unfold codeOf at a1; omega) (hl i hip) (hb i _ hip) k0 k1 (fun u hu => hh i u hip hu) _ rfl
    refine (show Calls _ _ #[_, .agg #[_, .int .i64 ((a + 1 : Nat) : Int), _, _], _, _] _ _ from ?_)
    rw [show ((a + 1 : Nat) : Int) = (a : Int) + 1 by omega]
    refine this.mono ?_
    rintro e w' ⟨rfl, hk⟩
    refine ⟨?_, hk⟩
    have hne : ¬ ((a : Int) + 1 = 0) := by omega
    simp [hne]
end Go.Proofs.YtgdcecibfoganabDoor

namespace Go.Proofs.YtgdcecibfoganabDoor
open Go.RowKit

/-- What ask leaves the judgement with. -/
def left (e : Int) : Ending := .panicked [{ v := .iface 24 (.int .i64 e), recovered := false }]

/-- Flags in a block. -/
def FlagsAt (w : World) (b o : Nat) (l : List Bool) : Prop := ∀ i z, l[i]? = some z → w.cell? ⟨b, o + i, none⟩ = some (.bool z)

set_option maxHeartbeats 1000000 in
theorem ask_all (e : Int) (l : List Bool) (b o n cap : Nat) (w : World) (hn : n = l.length) (hl : l.length ≤ 1000) (hf : FlagsAt w b o l) (ha : ∀ z, z ∈ l → z = true) :
    Calls Tryd.prog 86 #[.int .i64 e, .slice (some ⟨b, o, none⟩) n cap] w fun en w' => en = .returned (.tuple #[]) ∧ w = w' := by
  subst hn
  have HF := hide hf
  have HA := hide ha
  clear hf ha
  go_enter Tryd.func86, Tryd.ntmps86
  go_wp2
  go_loopw [8] (fun s8 wr => ∃ k : Nat, k ≤ l.length ∧ s8 = .int .i64 k ∧ Hid (w = wr)) (fun s8 _ => l.length - (intOf s8).toNat)
  case atStart => exact ⟨0, Nat.zero_le _, rfl, rfl⟩
  case round =>
    obtain ⟨k, hkm, rfl, HW⟩ := hrel
    have hw := unhide HW
    subst hw
    clear HW
    by_cases hlt : k < l.length
    · have hc := (unhide HF) k _ (getD_of_lt l k false hlt)
      have ht : l.getD k false = true := (unhide HA) _ (List.mem_of_getElem? (getD_of_lt l k false hlt))
      rw [ht] at hc
      clear ht
      go_wp2
      go_roundw
      case rel => exact ⟨k + 1, by omega, by go_num, trivial⟩
      case measure => simp [intOf]; omega
    · go_wp2
      go_end0
      exact ⟨rfl, rfl⟩

set_option maxHeartbeats 1000000 in
theorem ask_not (e : Int) (l : List Bool) (b o n cap : Nat) (w : World) (hn : n = l.length) (hl : l.length ≤ 1000) (hf : FlagsAt w b o l) (ha : ∃ z, z ∈ l ∧ z = false) :
    Calls Tryd.prog 86 #[.int .i64 e, .slice (some ⟨b, o, none⟩) n cap] w fun en w' => en = left e ∧ w = w' := by
  subst hn
  have HF := hide hf
  have HA := hide ha
  clear hf ha
  go_enter Tryd.func86, Tryd.ntmps86
  go_wp2
  go_loopw [8] (fun s8 wr => ∃ k : Nat, k ≤ l.length ∧ s8 = .int .i64 k ∧ Hid (∀ i, i < k → l.getD i false = true) ∧ Hid (w = wr)) (fun s8 _ => l.length - (intOf s8).toNat)
  case atStart => exact ⟨0, Nat.zero_le _, rfl, (fun i hi => by omega), rfl⟩
  case round =>
    obtain ⟨k, hkm, rfl, HT, HW⟩ := hrel
    have hw := unhide HW
    subst hw
    clear HW
    by_cases hlt : k < l.length
    · have hc := (unhide HF) k _ (getD_of_lt l k false hlt)
      by_cases ht : l.getD k false = true
      · rw [ht] at hc
        have HT2 := hide ht
        clear ht
        go_wp2
        go_roundw
        case rel =>
          refine ⟨k + 1, by omega, by go_num, ?_, trivial⟩
          intro i hi
          by_cases e : i = k
          · subst e; exact unhide HT2
          · exact (unhide HT) i (by omega)
        case measure => simp [intOf]; omega
      · have ht' : l.getD k false = false := by simpa using ht
        rw [ht'] at hc
        clear ht ht'
        go_wp2
        first | exact ⟨rfl, rfl⟩ | (refine bodyPost_panic ?_; exact ⟨rfl, rfl⟩) | (simp [bodyPost, left]; done)
    · obtain ⟨z, hz, hzf⟩ := unhide HA
      obtain ⟨i, hi, rfl⟩ := List.getElem_of_mem hz
      have := (unhide HT) i (by omega)
      simp [List.getD, hi] at this
      rw [this] at hzf
      cases hzf

theorem flags_one {w : World} {b : Nat} {z : Bool} (h : w.cell? ⟨b, 0, none⟩ = some (.bool z)) : FlagsAt w b 0 [z] := fun i y hy => by
  cases i with
  | zero => simp at hy; subst hy; exact h
  | succ i => simp at hy
theorem flags_two {w : World} {b : Nat} {z y : Bool} (h : w.cell? ⟨b, 0, none⟩ = some (.bool z)) (h' : w.cell? ⟨b, 1, none⟩ = some (.bool y)) : FlagsAt w b 0 [z, y] := fun i u hu => by
  match i, hu with
  | 0, hu => simp at hu; subst hu; exact h
  | 1, hu => simp at hu; subst hu; exact h'
theorem ask1_ok (e : Int) (b cap : Nat) (w : World) (h : w.cell? ⟨b, 0, none⟩ = some (.bool true)) :
    Calls Tryd.prog 86 #[.int .i64 e, .slice (some ⟨b, 0, none⟩) 1 cap] w fun en w' => en = .returned (.tuple #[]) ∧ w = w' :=
  ask_all e [true] b 0 1 cap w rfl (by decide) (flags_one h) (by simp)
theorem ask1_no (e : Int) (b cap : Nat) (w : World) (h : w.cell? ⟨b, 0, none⟩ = some (.bool false)) :
    Calls Tryd.prog 86 #[.int .i64 e, .slice (some ⟨b, 0, none⟩) 1 cap] w fun en w' => en = left e ∧ w = w' :=
  ask_not e [false] b 0 1 cap w rfl (by decide) (flags_one h) ⟨false, by simp, rfl⟩
theorem ask2_ok (e : Int) (b cap : Nat) (w : World) (h : w.cell? ⟨b, 0, none⟩ = some (.bool true)) (h' : w.cell? ⟨b, 1, none⟩ = some (.bool true)) :
    Calls Tryd.prog 86 #[.int .i64 e, .slice (some ⟨b, 0, none⟩) 2 cap] w fun en w' => en = .returned (.tuple #[]) ∧ w = w' :=
  ask_all e [true, true] b 0 2 cap w rfl (by decide) (flags_two h h') (by simp)
theorem ask2_no (e : Int) (b cap : Nat) (y : Bool) (w : World) (h : w.cell? ⟨b, 0, none⟩ = some (.bool false)) (h' : w.cell? ⟨b, 1, none⟩ = some (.bool y)) :
    Calls Tryd.prog 86 #[.int .i64 e, .slice (some ⟨b, 0, none⟩) 2 cap] w fun en w' => en = left e ∧ w = w' :=
  ask_not e [false, y] b 0 2 cap w rfl (by simp) (flags_two h h') ⟨false, by simp, rfl⟩
theorem ask2_no' (e : Int) (b cap : Nat) (y : Bool) (w : World) (h : w.cell? ⟨b, 0, none⟩ = some (.bool y)) (h' : w.cell? ⟨b, 1, none⟩ = some (.bool false)) :
    Calls Tryd.prog 86 #[.int .i64 e, .slice (some ⟨b, 0, none⟩) 2 cap] w fun en w' => en = left e ∧ w = w' :=
  ask_not e [y, false] b 0 2 cap w rfl (by simp) (flags_two h h') ⟨false, by simp, rfl⟩
/-- How an asking ends. -/
def askEnd (e : Int) (ok : Bool) : Ending := if ok = true then .returned (.tuple #[]) else left e

set_option maxHeartbeats 1000000 in
theorem sIsIndex_any (i n : Int) (w : World) : Calls Tryd.prog 88 #[.int .i64 i, .int .i64 n] w fun e w' => e = .returned (.bool (ixB i n)) ∧ w = w' := by
  by_cases h1 : 0 ≤ i
  · by_cases h2 : i < n
    · rw [ixB_true h1 h2]
      go_enter Tryd.func88, Tryd.ntmps88
      go_wp2
      go_ret
      exact ⟨rfl, rfl⟩
    · rw [ixB_false (fun h => h2 h.2)]
      have hd : decide (i < n) = false := decide_eq_false h2
      go_enter Tryd.func88, Tryd.ntmps88
      go_wp2
      go_ret
      exact ⟨by rw [← hd]; rfl, rfl⟩
  · rw [ixB_false (fun h => h1 h.1)]
    have hd : decide (0 ≤ i) = false := decide_eq_false h1
    go_enter Tryd.func88, Tryd.ntmps88
    go_wp2
    go_ret
    exact ⟨rfl, rfl⟩

/-- The heights of each function, a slice of slices. -/
def HgtsAt (w : World) (v : Value) (p : List Fn) : Prop :=
  ∃ b o cap, v = .slice (some ⟨b, o, none⟩) p.length cap ∧ ∀ k, k < p.length → ∃ u, w.cell? ⟨b, o + k, none⟩ = some u ∧ IntsAt w u (hgt p k)
theorem HgtsAt.kept {w w' : World} (h : Kept w w') {v : Value} {p : List Fn} (hv : HgtsAt w v p) : HgtsAt w' v p := by
  obtain ⟨b, o, cap, e, hi⟩ := hv
  refine ⟨b, o, cap, e, fun k hk => ?_⟩
  obtain ⟨u, h1, h2⟩ := hi k hk
  exact ⟨u, h.cell h1, h2.kept h⟩
/-- The judge, as a value. -/
def JudgeV (w : World) (v : Value) (p : List Fn) (s : St) : Prop :=
  ∃ vF vO vp vh, v = .agg #[vF, .int .i64 s.now, vO, vp, vh] ∧ FibersAt w vF s.fibers ∧ IntsW w vO s.out ∧ ProgAt w vp p ∧ HgtsAt w vh p
theorem JudgeV.kept {w w' : World} (h : Kept w w') {v : Value} {p : List Fn} {s : St} (hv : JudgeV w v p s) : JudgeV w' v p s := by
  obtain ⟨vF, vO, vp, vh, e, h1, h2, h3, h4⟩ := hv
  exact ⟨vF, vO, vp, vh, e, h1.kept h, h2.kept h, h3.kept h, h4.kept h⟩

def nameB (n : Int) (len : Nat) : Bool := decide (n = -1) || ixB n len
theorem nameB_inB (n : Int) (len : Nat) : nameB n len = inB n (-1) ((len : Int) - 1) := by
  rw [Bool.eq_iff_iff, inB_iff]
  simp only [nameB, Bool.or_eq_true, decide_eq_true_eq, ixB_iff]
  omega

set_option maxHeartbeats 1000000 in
set_option maxRecDepth 100000 in
theorem mayName_any (p : List Fn) (s : St) (v : Value) (n : Int) (w : World) (hj : JudgeV w v p s) :
    Calls Tryd.prog 87 #[v, .int .i64 n] w fun e w' => e = .returned (.bool (nameB n s.fibers.length)) ∧ Kept w w' := by
  obtain ⟨vF, vO, vp, vh, rfl, h1, _, _, _⟩ := hj
  obtain ⟨oa, cap, rfl, hlen, _⟩ := h1
  unfold nameB
  generalize s.fibers.length = m at *
  by_cases hn : n = -1
  · subst hn
    go_enter Tryd.func87, Tryd.ntmps87
    go_wp2
    go_ret
    exact ⟨rfl, (Kept.refl w).alloc _⟩
  · have hb : (n == -1) = false := by rw [beq_eq_false_iff_ne]; exact hn
    rw [decide_eq_false hn, Bool.false_or]
    clear hn
    go_enter Tryd.func87, Tryd.ntmps87
    go_wp2_with (go_at_call 88; refine (sIsIndex_any _ _ _).mono ?_; rintro e w' ⟨rfl, rfl⟩)
    go_ret
    exact ⟨rfl, (Kept.refl w).alloc _⟩

set_option maxHeartbeats 1000000 in
set_option maxRecDepth 100000 in
theorem height_any (p : List Fn) (s : St) (v u : Value) (x : Fr) (w : World) (hj : JudgeV w v p s) (hx : FrV w u x) (hl : HLen p) (hin : InFrame p x) :
    Calls Tryd.prog 89 #[v, u] w fun e w' => e = .returned (.int .i64 (hAt p x)) ∧ Kept w w' := by
  obtain ⟨vF, vO, vp, vh, rfl, h1, h2, h3, h4⟩ := hj
  obtain ⟨of, cf, rfl, _, _⟩ := h1
  obtain ⟨oo, co, rfl, _, _⟩ := h2
  obtain ⟨op, cp, rfl, hpl, _⟩ := h3
  obtain ⟨b, o, cap, rfl, hh⟩ := h4
  obtain ⟨vl, vs, rfl, _, _⟩ := hx
  obtain ⟨f0, f1, a0, a1⟩ := hin
  obtain ⟨i, hi⟩ : ∃ i : Nat, x.fn = i := ⟨x.fn.toNat, by omega⟩
  obtain ⟨a, ha⟩ : ∃ a : Nat, x.at_ = a := ⟨x.at_.toNat, by omega⟩
  have hip : i < p.length := by omega
  rw [hi, Int.toNat_natCast] at a1
  have hlen := hl i hip
  obtain ⟨uv, c0, hu⟩ := hh i hip
  obtain ⟨oh, ch, rfl, _, hcell⟩ := hu
  obtain ⟨bh, oh2, rfl, d0⟩ := hcell a _ (getD_of_lt (hgt p i) a 0 (by omega))
  unfold hAt
  rw [hi, ha, Int.toNat_natCast, Int.toNat_natCast]
  generalize hz : (hgt p i).getD a 0 = z at *
  have hi1 : (i : Int) < (p.length : Int) := by omega
  have hi0 : (0 : Int) ≤ (i : Int) := by omega
  have ha1 : (a : Int) < ((hgt p i).length : Int) := by omega
  have ha0 : (0 : Int) ≤ (a : Int) := by omega
  generalize (hgt p i).length = m at *
  generalize p.length = n at *
  generalize s.fibers.length = nf at *
  generalize s.out.length = no at *
  have l0 := cell_lt c0
  have l1 := cell_lt d0
  simp only at l0 l1
  clear hh hcell hlen hz
  go_enter Tryd.func89, Tryd.ntmps89
  go_wp2
  go_quiet (fail)
  go_wp2
  go_ret
  exact ⟨rfl, (((Kept.refl w).alloc _).alloc _).drewN _⟩
end Go.Proofs.YtgdcecibfoganabDoor

namespace Go.Proofs.YtgdcecibfoganabDoor
open Go.RowKit

set_option maxHeartbeats 4000000 in
set_option maxRecDepth 100000 in
theorem isFresh_go (b o bf off cf n cap i ns cs cl nf : Nat) (ol os : Option Addr) (at_ ar now : Int) (vF vO vh : Value) (l : List Int) (w : World) (hi : i < n) (hnf : 0 < nf)
    (c0 : w.cell? ⟨b, o + i * 3, none⟩ = some (.int .i64 ar)) (k0 : w.cell? ⟨bf, off, none⟩ = some (.int .i64 i)) (k1 : w.cell? ⟨bf, off + 1, none⟩ = some (.int .i64 at_))
    (k2 : w.cell? ⟨bf, off + 2, none⟩ = some (.slice ol l.length cl)) (k3 : w.cell? ⟨bf, off + 3, none⟩ = some (.slice os ns cs)) (hl : IntsW w (.slice ol l.length cl) l) (r : Bool)
    (hr : (decide (nf = 1) && ((decide (at_ = 0) && (decide (ar = 1) && decide (ns = 0))) && zerosB l)) = r) :
    Calls Tryd.prog 90 #[.agg #[vF, .int .i64 now, vO, .slice (some ⟨b, o, none⟩) n cap, vh], .slice (some ⟨bf, off, none⟩) nf cf] w fun e w' => e = .returned (.bool r) ∧ Kept w w' := by
  have HR := hide hr
  have HL := hide hl
  clear hr hl
  have hi1 : (i : Int) < (n : Int) := by omega
  have hi0 : (0 : Int) ≤ (i : Int) := by omega
  have hf1 : (0 : Int) < (nf : Int) := by omega
  have lb := cell_lt c0
  have lf := cell_lt k0
  simp only at lb lf
  have C0 := hide c0
  have lb1 : b < w.heap.size + 1 := by omega
  clear c0
  go_enter Tryd.func90, Tryd.ntmps90
  go_wp2
  generalize hw0 : (w.alloc (.cells #[vF, .int .i64 now, vO, .slice (some ⟨b, o, none⟩) n cap, vh] 102)).alloc (.cells #[.int .i64 i, .int .i64 at_, .slice ol l.length cl, .slice os ns cs] 76) = w0 at *
  have hk0 : Kept w w0 := by rw [← hw0]; exact ((Kept.refl w).alloc _).alloc _
  have x3 : w0.cell? ⟨w.heap.size, 3, none⟩ = some (.slice (some ⟨b, o, none⟩) n cap) := by rw [← hw0]; simp
  have y0 : w0.cell? ⟨w.heap.size + 1, 0, none⟩ = some (.int .i64 i) := by rw [← hw0]; simp
  have y1 : w0.cell? ⟨w.heap.size + 1, 1, none⟩ = some (.int .i64 at_) := by rw [← hw0]; simp
  have y3 : w0.cell? ⟨w.heap.size + 1, 3, none⟩ = some (.slice os ns cs) := by rw [← hw0]; simp
  have d0 := hk0.cell (unhide C0)
  have HK0 := hide hk0
  clear hw0 hk0 k0 k1 k2 k3 lb lf lb1
  go_loopw [14] (fun s14 wr => ∃ k : Nat, k ≤ l.length ∧ s14 = .int .i64 k ∧ Hid (∀ i, i < k → l.getD i 0 = 0) ∧ Hid (w0 = wr)) (fun s14 _ => l.length - (intOf s14).toNat)
  case atStart => exact ⟨0, Nat.zero_le _, rfl, (fun i hi => by omega), rfl⟩
  case round =>
    obtain ⟨k, hkm, rfl, HA, HW⟩ := hrel
    have hw := unhide HW
    subst hw
    clear HW
    by_cases hlt : k < l.length
    · obtain ⟨oa, ca', e1, _, hcell⟩ := unhide HL
      obtain ⟨b1, o1, e2, c1⟩ := hcell k _ (getD_of_lt l k 0 hlt)
      obtain ⟨rfl, -, -⟩ := (by simpa using e1 : ol = oa ∧ l.length = l.length ∧ cl = ca')
      have d1 := (unhide HK0).cell c1
      subst e2
      clear c1 hcell e1
      have HZI := hide (getD_of_lt l k 0 hlt)
      generalize hz1 : l.getD k 0 = z at *
      have Z1 := hide hz1
      clear hz1
      by_cases hz : z = 0
      · subst hz
        go_wp2
        go_roundw
        case rel =>
          refine ⟨k + 1, by omega, by go_num, ?_, trivial⟩
          intro i hi
          by_cases e : i = k
          · subst e; exact unhide Z1
          · exact (unhide HA) i (by omega)
        case measure => simp [intOf]; omega
      · have hzb : (z != 0) = true := by rw [bne_iff_ne]; exact hz
        have HZ := hide hz
        clear hz
        go_wp2
        go_ret
        refine ⟨?_, unhide HK0⟩
        have hf : zerosB l = false := by
          unfold zerosB
          rw [Bool.eq_false_iff]
          intro h
          rw [List.all_eq_true] at h
          have := h z (List.mem_of_getElem? (unhide HZI))
          exact (unhide HZ) (by simpa using this)
        have hr := unhide HR
        rw [hf, Bool.and_false, Bool.and_false] at hr
        rw [← hr]; rfl
    · have hf : zerosB l = true := by
        unfold zerosB
        rw [List.all_eq_true]
        intro z hz
        obtain ⟨i, hi, rfl⟩ := List.getElem_of_mem hz
        have := (unhide HA) i (by omega)
        simpa [List.getD, hi] using this
      have hr := unhide HR
      rw [hf, Bool.and_true] at hr
      have HR2 := hide hr
      clear hr hf HR HA
      by_cases h1 : nf = 1
      · subst h1
        by_cases h2 : at_ = 0
        · subst h2
          by_cases h3 : ar = 1
          · subst h3
            by_cases h4 : ns = 0
            · subst h4
              go_wp2
              go_ret
              exact ⟨by rw [← unhide HR2]; rfl, unhide HK0⟩
            · have hb : ((ns : Int) == 0) = false := by rw [beq_eq_false_iff_ne]; omega
              have H4 := hide h4
              clear h4
              go_wp2
              go_ret
              exact ⟨by rw [← unhide HR2, decide_eq_false (unhide H4)]; rfl, unhide HK0⟩
          · have hb : (ar == 1) = false := by rw [beq_eq_false_iff_ne]; exact h3
            have H3 := hide h3
            clear h3
            go_wp2
            go_ret
            exact ⟨by rw [← unhide HR2, decide_eq_false (unhide H3)]; rfl, unhide HK0⟩
        · have hb : (at_ == 0) = false := by rw [beq_eq_false_iff_ne]; exact h2
          have H2 := hide h2
          clear h2
          go_wp2
          go_ret
          exact ⟨by rw [← unhide HR2, decide_eq_false (unhide H2)]; rfl, unhide HK0⟩
      · have hb : ((nf : Int) == 1) = false := by rw [beq_eq_false_iff_ne]; omega
        have H1 := hide h1
        clear h1
        go_wp2
        go_ret
        exact ⟨by rw [← unhide HR2, decide_eq_false (unhide H1)]; rfl, unhide HK0⟩

theorem isFresh_any (p : List Fn) (s : St) (v vf : Value) (b : Fb) (w : World) (hj : JudgeV w v p s) (hf : FramesAt w vf b.frames) (hn : 0 < b.frames.length) (hin : ∀ x, x ∈ b.frames → 0 ≤ x.fn ∧ x.fn < p.length) :
    Calls Tryd.prog 90 #[v, vf] w fun e w' => e = .returned (.bool (freshB p b)) ∧ Kept w w' := by
  obtain ⟨vF, vO, vp, vh, rfl, _, _, h3, _⟩ := hj
  obtain ⟨of, cf, rfl, hfl, hcell⟩ := id hf
  obtain ⟨bf, off, vl, vs, rfl, k0, k1, k2, k3, k4, k5⟩ := hcell 0 _ (getD_of_lt b.frames 0 Fr.zero hn)
  have hm : b.frames.getD 0 Fr.zero ∈ b.frames := List.mem_of_getElem? (getD_of_lt b.frames 0 Fr.zero hn)
  have hxm := hin _ hm
  generalize hX : b.frames.getD 0 Fr.zero = x at *
  obtain ⟨oa, cap, rfl, hpl, hpc⟩ := id h3
  obtain ⟨i, hi⟩ : ∃ i : Nat, x.fn = i := ⟨x.fn.toNat, by omega⟩
  obtain ⟨b', o, cv, rfl, c0, _, _, _⟩ := hpc i _ (getD_of_lt p i Fn.zero (by omega))
  obtain ⟨ol, cl, rfl, _, _⟩ := id k4
  obtain ⟨os, cs, rfl, _, _⟩ := id k5
  rw [hi] at k0
  refine isFresh_go b' o bf off cf _ cap i _ cs cl _ ol os x.at_ _ _ vF vO vh x.locals w (by omega) hn c0 (by simpa using k0) (by simpa using k1) (by simpa using k2) (by simpa using k3) k4 _ ?_
  unfold freshB
  split
  · rename_i x' e
    rw [e] at hX
    simp at hX
    subst hX
    simp [e, hi]
  · rename_i hno
    have : ¬ b.frames.length = 1 := by
      intro h
      obtain ⟨y, hy⟩ := List.length_eq_one_iff.1 h
      exact hno y hy
    simp [this]
end Go.Proofs.YtgdcecibfoganabDoor
