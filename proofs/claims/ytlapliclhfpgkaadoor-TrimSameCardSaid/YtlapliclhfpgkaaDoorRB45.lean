/- Choose, SameS, OpenG, Open -/
import Derived.Test.YtlapliclhfpgkaaDoorChecked
import Derived.Test.YtlapliclhfpgkaaDoorRB08
import Derived.Test.YtlapliclhfpgkaaDoorRB44
import Derived.Test.YtlapliclhfpgkaaDoorRB32
import Derived.Deep.RegionHeld3
import Derived.Deep.DeepCutAuto
import Derived.Test.YtlapliclhfpgkaaDoorRows
import Derived.Test.YtlapliclhfpgkaaDoorRB01
import Derived.ProofKit
import Derived.OpenShut
import Derived.Deep.Slices
import Derived.SizedLaws
import Derived.Deep.Strs
import Derived.Lib.LaidTab
namespace Go.Proofs.YtlapliclhfpgkaaDoor
open Go.RowKit
def chooseS (c : Int) (n : Nat) : Nat := ((if c < 0 then -(c + 1) else c) % n).toNat
theorem chooseS_lt (c : Int) {n : Nat} (h : 0 < n) : chooseS c n < n := by
  unfold chooseS
  have h1 := Int.emod_lt_of_pos (if c < 0 then -(c + 1) else c) (show (0 : Int) < n by omega)
  have h2 := Int.emod_nonneg (if c < 0 then -(c + 1) else c) (show (n : Int) ≠ 0 by omega)
  omega
theorem chooseS_eq (c : Int) {n : Nat} (h : 0 < n) : ((chooseS c n : Nat) : Int) = (if c < 0 then -(c + 1) else c) % n := by
  unfold chooseS
  have h2 := Int.emod_nonneg (if c < 0 then -(c + 1) else c) (show (n : Int) ≠ 0 by omega)
  omega
theorem ret_int {k : IntKind} {a b : Int} (h : a = b) : Ending.returned (.int k a) = .returned (.int k b) := by rw [h]
set_option maxHeartbeats 400000 in
theorem choose_any (c : Int) (n : Nat) (w : World) (hw : (Lit.int .i64 c).wf = true) (hn : 0 < n) (hm : n ≤ 8796093022208) :
    Calls Tryd.prog 11 #[.int .i64 c, .int .i64 n] w fun e w' => e = .returned (.int .i64 (chooseS c n)) ∧ w = w' := by
  have hb : -9223372036854775808 ≤ c ∧ c ≤ 9223372036854775807 := by
    simp only [Lit.wf, Bool.and_eq_true, decide_eq_true_eq] at hw
    exact hw
  rw [chooseS_eq c hn]
  have hz : ((n : Int) == 0) = false := beq_eq_false_iff_ne.2 (by omega)
  obtain ⟨hb1, hb2⟩ := hb
  by_cases h : c < 0
  · rw [if_pos h]
    go_enter Tryd.func11, Tryd.ntmps11
    go_wp2
    go_ret
    exact ⟨ret_int (by rw [← Int.neg_tmod]; exact Int.tmod_eq_emod_of_nonneg (by omega)), rfl⟩
  · rw [if_neg h]
    go_enter Tryd.func11, Tryd.ntmps11
    go_wp2
    go_ret
    exact ⟨ret_int (by rfl), rfl⟩
end Go.Proofs.YtlapliclhfpgkaaDoor
namespace Go.Proofs.YtlapliclhfpgkaaDoor
open Go.RowKit
set_option maxHeartbeats 4000000 in
set_option maxRecDepth 100000 in
theorem sameStates_same (s : St) (v1 v2 : Value) (w : World) (h1 : StAt w v1 s) (h2 : StAt w v2 s) :
    Calls Tryd.prog 16 #[v1, v2] w fun e w' => e = .returned (.bool true) ∧ Kept w w' := by
  obtain ⟨vf1, vo1, rfl, hf1, ho1⟩ := h1
  obtain ⟨vf2, vo2, rfl, hf2, ho2⟩ := h2
  obtain ⟨oa1, cap1, rfl, hl, i1⟩ := hf1
  obtain ⟨oa2, cap2, rfl, _, i2⟩ := hf2
  have HSI : Hid (∀ u, Kept w u → Calls Tryd.prog 12 #[vo1, vo2] u fun e w' => e = .returned (.bool true) ∧ Kept u w') := hide (fun u hu => by
    have := sameInts_w s.out s.out vo1 vo2 u (ho1.kept hu) (ho2.kept hu)
    rwa [decide_eq_true rfl] at this)
  obtain ⟨oo1, co1, rfl, _, _⟩ := ho1
  obtain ⟨oo2, co2, rfl, _, _⟩ := ho2
  have hn1 : (s.now != s.now) = false := by simp
  have hn2 : ((s.fibers.length : Int) != (s.fibers.length : Int)) = false := by simp
  generalize hN : s.fibers.length = N at *
  generalize s.out.length = M at *
  have HI1 := hide i1
  have HI2 := hide i2
  have HN := hide hN
  clear i1 i2 hN
  go_enter Tryd.func16, Tryd.ntmps16
  go_wp2_with fail
  refine ((unhide HSI) _ (((Kept.refl w).alloc _).alloc _)).mono ?_
  rintro e w1 ⟨rfl, hk1⟩
  have hkw := (((Kept.refl w).alloc (.cells #[.slice oa1 N cap1, .int .i64 s.now, .slice oo1 M co1] 35)).alloc (.cells #[.slice oa2 N cap2, .int .i64 s.now, .slice oo2 M co2] 35)).trans hk1
  have L0 := lays_kept hk1 (lays_alloc (lays_new (w := w) (o := .cells #[.slice oa1 N cap1, .int .i64 s.now, .slice oo1 M co1] 35) rfl) (.cells #[.slice oa2 N cap2, .int .i64 s.now, .slice oo2 M co2] 35))
  have L1 : w1.heap[w.heap.size + 1]? = some (.cells #[.slice oa2 N cap2, .int .i64 s.now, .slice oo2 M co2] 35) := lays_kept hk1 (lays_new (by simp))
  have X0 : Hid (w1.cell? ⟨w.heap.size, 0, none⟩ = some (.slice oa1 N cap1)) := hide (cell_at L0 rfl)
  have Y0 : Hid (w1.cell? ⟨w.heap.size + 1, 0, none⟩ = some (.slice oa2 N cap2)) := hide (cell_at L1 rfl)
  have HKW := hide hkw
  clear hk1 hkw L0 L1 HSI
  go_wp2
  go_loopw [5] (fun s5 wr => ∃ k : Nat, k ≤ N ∧ s5 = .int .i64 k ∧ Hid (Kept w1 wr)) (fun s5 _ => N - (intOf s5).toNat)
  case atStart => exact ⟨0, Nat.zero_le _, rfl, Kept.refl _⟩
  case round =>
    obtain ⟨k, hkm, rfl, HKr⟩ := hrel
    have dx := (unhide HKr).cell (unhide X0)
    have dy := (unhide HKr).cell (unhide Y0)
    by_cases hlt : k < N
    · obtain ⟨f, hx⟩ : ∃ f, s.fibers[k]? = some f := ⟨_, List.getElem?_eq_getElem (by rw [unhide HN]; exact hlt)⟩
      obtain ⟨p1, o1, vf1, rfl, x0, x1, hc1⟩ := (unhide HI1) k _ hx
      obtain ⟨p2, o2, vf2, rfl, y0, y1, hc2⟩ := (unhide HI2) k _ hx
      have hk := (unhide HKW).trans (unhide HKr)
      obtain ⟨oc1, cc1, rfl, hlf, j1⟩ := hc1
      obtain ⟨oc2, cc2, rfl, _, j2⟩ := hc2
      have HJ1 := hide j1
      have HJ2 := hide j2
      have hk1 : (k : Int) < (N : Int) := by omega
      have hk0 : (0 : Int) ≤ (k : Int) := by omega
      have HY : Hid (∀ u, Kept wr u → u.cell? ⟨w.heap.size, 0, none⟩ = some (.slice (some ⟨p1, o1, none⟩) N cap1) ∧ u.cell? ⟨w.heap.size + 1, 0, none⟩ = some (.slice (some ⟨p2, o2, none⟩) N cap2) ∧ u.cell? ⟨p1, o1 + k * 2, none⟩ = some (.slice oc1 f.frames.length cc1) ∧ u.cell? ⟨p1, o1 + k * 2 + 1, none⟩ = some (.int .i64 f.caller) ∧ u.cell? ⟨p2, o2 + k * 2, none⟩ = some (.slice oc2 f.frames.length cc2) ∧ u.cell? ⟨p2, o2 + k * 2 + 1, none⟩ = some (.int .i64 f.caller)) :=
        hide (fun u hu => ⟨hu.cell dx, hu.cell dy, hu.cell (hk.cell x0), hu.cell (hk.cell x1), hu.cell (hk.cell y0), hu.cell (hk.cell y1)⟩)
      have HKW2 := hide hk
      clear j1 j2 x0 x1 y0 y1 hk
      go_wp2_with fail
      go_cut [6, 7] from 33 to 108 (fun s6 s7 wx => ∃ b6 b7, s6 = .pointer (some ⟨b6, 0, none⟩) ∧ s7 = .pointer (some ⟨b7, 0, none⟩) ∧ Hid (wx.cell? ⟨b6, 0, none⟩ = some (.slice oc1 f.frames.length cc1) ∧ wx.cell? ⟨b6, 1, none⟩ = some (.int .i64 f.caller) ∧ wx.cell? ⟨b7, 0, none⟩ = some (.slice oc2 f.frames.length cc2) ∧ wx.cell? ⟨b7, 1, none⟩ = some (.int .i64 f.caller) ∧ Kept wr wx))
      case first =>
        go_region_held3 (fun u => u.cell? ⟨w.heap.size, 0, none⟩ = some (.slice (some ⟨p1, o1, none⟩) N cap1) ∧ u.cell? ⟨w.heap.size + 1, 0, none⟩ = some (.slice (some ⟨p2, o2, none⟩) N cap2) ∧ u.cell? ⟨p1, o1 + k * 2, none⟩ = some (.slice oc1 f.frames.length cc1) ∧ u.cell? ⟨p1, o1 + k * 2 + 1, none⟩ = some (.int .i64 f.caller) ∧ u.cell? ⟨p2, o2 + k * 2, none⟩ = some (.slice oc2 f.frames.length cc2) ∧ u.cell? ⟨p2, o2 + k * 2 + 1, none⟩ = some (.int .i64 f.caller))
          (exact (unhide HY) _ (by repeat (first | exact Kept.refl _ | refine Kept.drew ?_ | refine Kept.alloc ?_ _ | refine Kept.setCell ?_ (by simp) _))) (fail)
        all_goals go_wp2_with fail
        all_goals go_meet
        all_goals exact ⟨_, _, rfl, rfl, hide ⟨by simp, by simp, by simp, by simp, (((Kept.refl wr).alloc _).alloc _).drew⟩⟩
      case rest =>
        obtain ⟨b6, b7, rfl, rfl, HC⟩ := hcut
        obtain ⟨z0, z1, z2, z3, hkc⟩ := unhide HC
        have hn3 : (f.caller != f.caller) = false := by simp
        have HZ0 := hide z0
        have HZ2 := hide z2
        have HKC := hide hkc
        have HKr0 := HKr
        have HFW := hide ((unhide HKW2).trans hkc)
        generalize hq : f.frames.length = q at *
        have HQ := hide hq
        have hn4 : ((q : Int) != (q : Int)) = false := by simp
        clear HC hkc hq dx dy HY
        go_wp2
        clear z0 z1 z2 z3
        go_loopw [8] (fun s8 wr => ∃ i : Nat, i ≤ q ∧ s8 = .int .i64 i ∧ Hid (Kept wc wr)) (fun s8 _ => q - (intOf s8).toNat)
        case atStart => exact ⟨0, Nat.zero_le _, rfl, Kept.refl _⟩
        case round =>
          obtain ⟨i, hiq, rfl, HKi⟩ := hrel
          have dz := (unhide HKi).cell (unhide HZ0)
          have dw := (unhide HKi).cell (unhide HZ2)
          by_cases hil : i < q
          · obtain ⟨x, hx2⟩ : ∃ x, f.frames[i]? = some x := ⟨_, List.getElem?_eq_getElem (by rw [unhide HQ]; exact hil)⟩
            obtain ⟨g1, t1, vl1, vs1, rfl, a0, a1, a2, a3, hvl1, hvs1⟩ := (unhide HJ1) i _ hx2
            obtain ⟨g2, t2, vl2, vs2, rfl, e0, e1, e2, e3, hvl2, hvs2⟩ := (unhide HJ2) i _ hx2
            have hk := (unhide HFW).trans (unhide HKi)
            have HSL : Hid (∀ u, Kept wr u → Calls Tryd.prog 12 #[vl1, vl2] u fun e w' => e = .returned (.bool true) ∧ Kept u w') := hide (fun u hu => by
              have := sameInts_w x.locals x.locals vl1 vl2 u (hvl1.kept (hk.trans hu)) (hvl2.kept (hk.trans hu))
              rwa [decide_eq_true rfl] at this)
            have HSS : Hid (∀ u, Kept wr u → Calls Tryd.prog 12 #[vs1, vs2] u fun e w' => e = .returned (.bool true) ∧ Kept u w') := hide (fun u hu => by
              have := sameInts_w x.stack x.stack vs1 vs2 u (hvs1.kept (hk.trans hu)) (hvs2.kept (hk.trans hu))
              rwa [decide_eq_true rfl] at this)
            obtain ⟨ol1, cl1, rfl, _, _⟩ := hvl1
            obtain ⟨os1, cs1, rfl, _, _⟩ := hvs1
            obtain ⟨ol2, cl2, rfl, _, _⟩ := hvl2
            obtain ⟨os2, cs2, rfl, _, _⟩ := hvs2
            have HYi : Hid (∀ u, Kept wr u → u.cell? ⟨b6, 0, none⟩ = some (.slice (some ⟨g1, t1, none⟩) q cc1) ∧ u.cell? ⟨b7, 0, none⟩ = some (.slice (some ⟨g2, t2, none⟩) q cc2) ∧ u.cell? ⟨g1, t1 + i * 4, none⟩ = some (.int .i64 x.fn) ∧ u.cell? ⟨g1, t1 + i * 4 + 1, none⟩ = some (.int .i64 x.at_) ∧ u.cell? ⟨g1, t1 + i * 4 + 2, none⟩ = some (.slice ol1 x.locals.length cl1) ∧ u.cell? ⟨g1, t1 + i * 4 + 3, none⟩ = some (.slice os1 x.stack.length cs1) ∧ u.cell? ⟨g2, t2 + i * 4, none⟩ = some (.int .i64 x.fn) ∧ u.cell? ⟨g2, t2 + i * 4 + 1, none⟩ = some (.int .i64 x.at_) ∧ u.cell? ⟨g2, t2 + i * 4 + 2, none⟩ = some (.slice ol2 x.locals.length cl2) ∧ u.cell? ⟨g2, t2 + i * 4 + 3, none⟩ = some (.slice os2 x.stack.length cs2)) :=
              hide (fun u hu => ⟨hu.cell dz, hu.cell dw, hu.cell (hk.cell a0), hu.cell (hk.cell a1), hu.cell (hk.cell a2), hu.cell (hk.cell a3), hu.cell (hk.cell e0), hu.cell (hk.cell e1), hu.cell (hk.cell e2), hu.cell (hk.cell e3)⟩)
            have hi1 : (i : Int) < (q : Int) := by omega
            have hi0 : (0 : Int) ≤ (i : Int) := by omega
            have hn5 : (x.fn != x.fn) = false := by simp
            have hn6 : (x.at_ != x.at_) = false := by simp
            clear a0 a1 a2 a3 e0 e1 e2 e3 hk hx2
            go_wp2_with fail
            go_cut [9, 10] from 64 to 108 (fun s9 s10 wx => ∃ b9 b10, s9 = .pointer (some ⟨b9, 0, none⟩) ∧ s10 = .pointer (some ⟨b10, 0, none⟩) ∧ Hid (wx.heap[b9]? = some (.cells #[.int .i64 x.fn, .int .i64 x.at_, .slice ol1 x.locals.length cl1, .slice os1 x.stack.length cs1] 64) ∧ wx.heap[b10]? = some (.cells #[.int .i64 x.fn, .int .i64 x.at_, .slice ol2 x.locals.length cl2, .slice os2 x.stack.length cs2] 64) ∧ Kept wr wx))
            case first =>
              go_region_held3 (fun u => u.cell? ⟨b6, 0, none⟩ = some (.slice (some ⟨g1, t1, none⟩) q cc1) ∧ u.cell? ⟨b7, 0, none⟩ = some (.slice (some ⟨g2, t2, none⟩) q cc2) ∧ u.cell? ⟨g1, t1 + i * 4, none⟩ = some (.int .i64 x.fn) ∧ u.cell? ⟨g1, t1 + i * 4 + 1, none⟩ = some (.int .i64 x.at_) ∧ u.cell? ⟨g1, t1 + i * 4 + 2, none⟩ = some (.slice ol1 x.locals.length cl1) ∧ u.cell? ⟨g1, t1 + i * 4 + 3, none⟩ = some (.slice os1 x.stack.length cs1) ∧ u.cell? ⟨g2, t2 + i * 4, none⟩ = some (.int .i64 x.fn) ∧ u.cell? ⟨g2, t2 + i * 4 + 1, none⟩ = some (.int .i64 x.at_) ∧ u.cell? ⟨g2, t2 + i * 4 + 2, none⟩ = some (.slice ol2 x.locals.length cl2) ∧ u.cell? ⟨g2, t2 + i * 4 + 3, none⟩ = some (.slice os2 x.stack.length cs2))
                (exact (unhide HYi) _ (by repeat (first | exact Kept.refl _ | refine Kept.drew ?_ | refine Kept.alloc ?_ _ | refine Kept.setCell ?_ (by simp) _))) (fail)
              all_goals go_wp2_with fail
              all_goals go_meet
              all_goals first
                | exact ⟨_, _, rfl, rfl, hide ⟨lays_alloc (lays_new rfl) _, lays_new (by simp), (((Kept.refl wr).alloc _).alloc _).drew⟩⟩
                | exact ⟨_, _, rfl, rfl, hide ⟨lays_new (by simp), lays_alloc (lays_new rfl) _, (((Kept.refl wr).alloc _).alloc _).drew⟩⟩
            case rest =>
              obtain ⟨b9, b10, rfl, rfl, HD⟩ := hcut
              obtain ⟨l9, l10, hkd⟩ := unhide HD
              have y0 := cell_at l9 (i := 0) rfl
              have y1 := cell_at l9 (i := 1) rfl
              have y2 := cell_at l9 (i := 2) rfl
              have y4 := cell_at l10 (i := 0) rfl
              have y5 := cell_at l10 (i := 1) rfl
              have y6 := cell_at l10 (i := 2) rfl
              have HL9 := hide l9
              have HL10 := hide l10
              have HKD := hide hkd
              clear HD l9 l10 hkd dz dw HYi
              go_wp2_with fail
              refine ((unhide HSL) _ (unhide HKD)).mono ?_
              rintro e w4 ⟨rfl, hk4⟩
              have y3 := cell_at (lays_kept hk4 (unhide HL9)) (i := 3) rfl
              have y7 := cell_at (lays_kept hk4 (unhide HL10)) (i := 3) rfl
              have HK4 := hide ((unhide HKD).trans hk4)
              clear hk4
              go_wp2_with fail
              refine ((unhide HSS) _ (unhide HK4)).mono ?_
              rintro e w5 ⟨rfl, hk5⟩
              have HK5 := hide ((unhide HK4).trans hk5)
              clear hk5
              go_wp2
              go_roundw
              case rel => exact ⟨i + 1, by omega, by go_num, (unhide HKi).trans (unhide HK5)⟩
              case measure => simp [intOf]; omega
          · have hi1 : ¬ ((i : Int) < (q : Int)) := by omega
            go_wp2
            go_roundw
            case rel => exact ⟨k + 1, by omega, by go_num, (unhide HKr0).trans ((unhide HKC).trans (unhide HKi))⟩
            case measure => simp [intOf]; omega
    · go_wp2
      go_ret
      exact ⟨rfl, (unhide HKW).trans (unhide HKr)⟩
end Go.Proofs.YtlapliclhfpgkaaDoor
namespace Go.Proofs.YtlapliclhfpgkaaDoor
open Go.RowKit Go.ChangeShapes Go.WideShapes Go.ChangeAt
theorem own : ownKnob Tryd.prog.godebug = none := by kernel_rfl
theorem laidOut : laidOutB Tryd.prog = true := by kernel_rfl
theorem cellsInt : Tryd.prog.cellsOf 3 = 1 := by kernel_rfl
theorem reach_eq : reachBytes = 140737488351232 := rfl
section
variable {H : Type} {enc : TypeId × Value → H} {w : World} {base : Nat} {spare : Nat → Bool} {held : Bool}
theorem spot_none {a : Addr} {v : Value} (h : w.cell? a = some v) : a.spot = none := by
  unfold World.cell? at h
  split at h
  · split at h
    · cases h
    · rename_i hs; simpa using hs
  · cases h
theorem add_of_spot {a : Addr} (h : a.spot = none) (n : Nat) : a.add n = ⟨a.block, a.off + n, none⟩ := by
  unfold Addr.add
  split
  · rename_i e; subst e; cases a; simp_all
  · rfl
theorem weightsAll_mem {P : Program} {e : TypeId} : ∀ {l : List (DataW H)} {d : DataW H}, d ∈ l → ∀ n ∈ d.weights P e, n ∈ DataW.weightsAll P e l
  | d' :: r, d, hd, n, hn => by
    simp only [DataW.weightsAll, List.mem_append]
    rcases List.mem_cons.1 hd with rfl | h
    · exact Or.inl hn
    · exact Or.inr (weightsAll_mem h n hn)
end
theorem trodAll_below {H : Type} {enc : TypeId × Value → H} {W W' : World} (hb : Kept W W') : ∀ {ts : List TypeId} {vs : List Value} {ds : List (DataW H)} {ps : List MemPlace}, (∀ t, t ∈ ts → Tryd.prog.readableRec t = true ∧ t < Tryd.prog.types.size) →
    DataW.TrodAll enc Tryd.prog W 0 (fun _ => true) true ts vs ds ps → (∀ x, x ∈ ps → x.block < W.heap.size) → DataW.TrodAll enc Tryd.prog W' 0 (fun b => decide (b < W.heap.size)) true ts vs ds ps
  | [], vs, ds, ps, _, h, _ => by
    obtain ⟨rfl, rfl, rfl⟩ := trodAll_nil h
    exact trodAll_mk0
  | t :: ts, vs, ds, ps, hr, h, hl => by
    obtain ⟨v, vs', d, ds', p, q, rfl, rfl, rfl, h0, h1⟩ := trodAll_cons h
    obtain ⟨r1, r2⟩ := hr t (by simp)
    exact trodAll_cons_mk (Below.trod laidOut r1 r2 h0 hb (fun x hx => hl x (by simp [hx]))) (trodAll_below hb (fun t ht => hr t (by simp [ht])) h1 (fun x hx => hl x (by simp [hx])))
end Go.Proofs.YtlapliclhfpgkaaDoor
namespace Go.Proofs.YtlapliclhfpgkaaDoor
open Go.RowKit Go.ChangeShapes Go.WideShapes Go.ChangeAt
theorem cellsOp : Tryd.prog.cellsOf 54 = 2 := by kernel_rfl
theorem cellsOps : Tryd.prog.cellsOf 47 = 1 := by kernel_rfl
theorem cellsFunc : Tryd.prog.cellsOf 49 = 3 := by kernel_rfl
theorem cellsKind : Tryd.prog.cellsOf 101 = 3 := by kernel_rfl
theorem bytesOp : Tryd.prog.bytesOf 54 = 16 := by kernel_rfl
theorem bytesFunc : Tryd.prog.bytesOf 49 = 40 := by kernel_rfl
theorem typeOp : ∃ f0 f1 : Field, Tryd.prog.underlying 54 = some (.struct #[f0, f1]) ∧ f0.type = 3 ∧ f0.offset = 0 ∧ f1.type = 3 ∧ f1.offset = 1 := ⟨_, _, Tryd.underlying54, rfl, rfl, rfl, rfl⟩
theorem typeFunc : ∃ f0 f1 f2 : Field, Tryd.prog.underlying 49 = some (.struct #[f0, f1, f2]) ∧ f0.type = 3 ∧ f0.offset = 0 ∧ f1.type = 3 ∧ f1.offset = 1 ∧ f2.type = 47 ∧ f2.offset = 2 := ⟨_, _, _, Tryd.underlying49, rfl, rfl, rfl, rfl, rfl, rfl⟩
theorem typeKind : ∃ f0 f1 f2 : Field, Tryd.prog.underlying 101 = some (.struct #[f0, f1, f2]) ∧ f0.type = 3 ∧ f0.offset = 0 ∧ f1.type = 3 ∧ f1.offset = 1 ∧ f2.type = 3 ∧ f2.offset = 2 := ⟨_, _, _, Tryd.underlying101, rfl, rfl, rfl, rfl, rfl, rfl⟩
section
variable {H : Type} {enc : TypeId × Value → H} {w : World} {base : Nat} {spare : Nat → Bool} {held : Bool}
theorem trod_op {fuel : Nat} {cs : List Value} {x : DataW H × List MemPlace} (h : DataW.trod enc Tryd.prog w base spare held fuel 54 cs = some x) :
    ∃ k a : Int, cs = [.int .i64 k, .int .i64 a] ∧ x = (.agg [.lit (.int .i64 k), .lit (.int .i64 a)], []) ∧ (Lit.int .i64 k).wf = true ∧ (Lit.int .i64 a).wf = true := by
  obtain ⟨f0, f1, hu, t0, o0, t1, o1⟩ := typeOp
  obtain ⟨y0, y1, n, hx, hl, h0, h1⟩ := trod_struct2 hu h
  rw [t0, o0, cellsInt] at h0
  rw [t1, o1, cellsInt] at h1
  obtain ⟨k, e0, r0, w0⟩ := DataW.trod_int Tryd.underlying3 h0
  obtain ⟨a, e1, r1, w1⟩ := DataW.trod_int Tryd.underlying3 h1
  rw [cellsOp] at hl
  match cs, hl with
  | [c0, c1], _ =>
    simp at e0 e1
    subst e0 e1
    subst r0 r1
    exact ⟨k, a, rfl, by simpa using hx, w0, w1⟩
theorem open_code {fuel : Nat} {v : Value} {x : DataW H × List MemPlace} (h : DataW.trod enc Tryd.prog w base spare held fuel 47 [v] = some x) (hw : ∀ n, n ∈ x.1.weights Tryd.prog 47 → n ≤ reachBytes) : ∃ c, CodeAt w v c := by
  rcases Deep.open_slice Tryd.underlying47 h with ⟨e, _⟩ | ⟨a, len, cap, m, n, D, Pl, e, _, hlc, _, hm, hx, hi⟩
  · simp at e
    subst e
    exact ⟨[], none, 0, rfl, by simp, fun i x h => by simp at h⟩
  · simp at e
    subst e
    have hlm : len ≤ m := by rw [hm]; split <;> omega
    have hlen : len * 16 ≤ 140737488351232 := by
      have := hw ((((List.range len).map D).length + ((List.range (m - len)).map fun j => D (len + j)).length) * Tryd.prog.bytesOf 54) (by rw [hx]; simp [DataW.weights, Tryd.underlying47])
      rw [bytesOp, reach_eq] at this
      simp at this
      omega
    have hall : ∀ i, i < len → ∃ y : Int × Int, w.cell? (a.add (i * 2)) = some (.int .i64 y.1) ∧ w.cell? (a.add (i * 2 + 1)) = some (.int .i64 y.2) := by
      intro i hil
      obtain ⟨cs', hc, ht⟩ := hi i (by omega)
      rw [cellsOp] at hc
      obtain ⟨_, _, hcell⟩ := World.cells?_some hc
      obtain ⟨k, av, rfl, _⟩ := trod_op ht
      refine ⟨(k, av), ?_, ?_⟩
      · have := hcell 0 (by omega); rw [Deep.add_add] at this; simpa using this
      · have := hcell 1 (by omega); rw [Deep.add_add] at this; simpa using this
    obtain ⟨g, hg⟩ := Deep.choose_lt hall
    refine ⟨(List.range len).map g, some a, cap, by simp, by simp; omega, fun i y hy => ?_⟩
    rw [List.getElem?_map, Option.map_eq_some_iff] at hy
    obtain ⟨j, hj, rfl⟩ := hy
    have hjl : i < len := by simpa using (List.getElem?_eq_some_iff.1 hj).1
    obtain rfl : i = j := by simpa [hjl] using hj
    have hs : a.spot = none := by
      have := (hg 0 (by omega)).1
      simp only [Nat.zero_mul] at this
      exact spot_none (by simpa [Addr.add] using this)
    refine ⟨a.block, a.off, by cases a; simp_all, ?_, ?_⟩
    · have := (hg i hjl).1; rwa [add_of_spot hs] at this
    · have := (hg i hjl).2; rwa [add_of_spot hs, ← Nat.add_assoc] at this
theorem open_prog {fuel : Nat} {v : Value} {x : DataW H × List MemPlace} (h : DataW.trod enc Tryd.prog w base spare held fuel 22 [v] = some x) (hw : ∀ n, n ∈ x.1.weights Tryd.prog 22 → n ≤ reachBytes) : ∃ p, ProgAt w v p := by
  rcases Deep.open_slice Tryd.underlying22 h with ⟨e, _⟩ | ⟨a, len, cap, m, n, D, Pl, e, _, hlc, _, hm, hx, hi⟩
  · simp at e
    subst e
    exact ⟨[], none, 0, rfl, by simp, fun i x h => by simp at h⟩
  · simp at e
    subst e
    have hlm : len ≤ m := by rw [hm]; split <;> omega
    have hlen : len * 40 ≤ 140737488351232 := by
      have := hw ((((List.range len).map D).length + ((List.range (m - len)).map fun j => D (len + j)).length) * Tryd.prog.bytesOf 49) (by rw [hx]; simp [DataW.weights, Tryd.underlying22])
      rw [bytesFunc, reach_eq] at this
      simp at this
      omega
    have hall : ∀ i, i < len → ∃ y : Fn × Value, w.cell? (a.add (i * 3)) = some (.int .i64 y.1.args) ∧ w.cell? (a.add (i * 3 + 1)) = some (.int .i64 y.1.locals) ∧ w.cell? (a.add (i * 3 + 2)) = some y.2 ∧ CodeAt w y.2 y.1.code := by
      intro i hil
      obtain ⟨cs', hc, ht⟩ := hi i (by omega)
      rw [cellsFunc] at hc
      obtain ⟨_, hcl, hcell⟩ := World.cells?_some hc
      obtain ⟨f0, f1, f2, hu, t0, o0, t1, o1, t2, o2⟩ := typeFunc
      obtain ⟨y0, y1, y2, n', hy, _, g0, g1, g2⟩ := Deep.trod_struct3 hu ht
      rw [t0, o0, cellsInt] at g0
      rw [t1, o1, cellsInt] at g1
      rw [t2, o2, cellsOps] at g2
      obtain ⟨ar, e0, r0, _⟩ := DataW.trod_int Tryd.underlying3 g0
      obtain ⟨lo, e1, r1, _⟩ := DataW.trod_int Tryd.underlying3 g1
      match cs', hcl with
      | [c0, c1, c2], _ =>
        simp at e0 e1
        subst e0 e1
        simp only [List.drop, List.take] at g2
        have hD : D i = .agg [y0.1, y1.1, y2.1] := congrArg Prod.fst hy
        obtain ⟨c, hcode⟩ := open_code g2 (fun q hq => hw q (by
          rw [hx]
          simp only [DataW.weights, Tryd.underlying22, List.mem_cons, List.mem_append]
          refine Or.inr (Or.inl (weightsAll_mem (d := D i) (List.mem_map.2 ⟨i, by simpa using hil, rfl⟩) q ?_))
          rw [hD]
          simp only [DataW.weights, hu, DataW.weightsEach, List.map_cons, List.map_nil, t0, t1, t2, List.mem_append]
          exact Or.inr (Or.inr (Or.inl hq))))
        refine ⟨(⟨ar, lo, c⟩, c2), ?_, ?_, ?_, hcode⟩
        · have := hcell 0 (by omega); rw [Deep.add_add] at this; simpa using this
        · have := hcell 1 (by omega); rw [Deep.add_add] at this; simpa using this
        · have := hcell 2 (by omega); rw [Deep.add_add] at this; simpa using this
    have : Inhabited (Fn × Value) := ⟨(Fn.zero, .nilIface)⟩
    obtain ⟨g, hg⟩ := Deep.choose_lt hall
    refine ⟨(List.range len).map fun i => (g i).1, some a, cap, by simp, by simp; omega, fun i y hy => ?_⟩
    rw [List.getElem?_map, Option.map_eq_some_iff] at hy
    obtain ⟨j, hj, rfl⟩ := hy
    have hjl : i < len := by simpa using (List.getElem?_eq_some_iff.1 hj).1
    obtain rfl : i = j := by simpa [hjl] using hj
    have hs : a.spot = none := by
      have := (hg 0 (by omega)).1
      simp only [Nat.zero_mul] at this
      exact spot_none (by simpa [Addr.add] using this)
    obtain ⟨k0, k1, k2, k3⟩ := hg i hjl
    refine ⟨a.block, a.off, (g i).2, by cases a; simp_all, ?_, ?_, ?_, k3⟩
    · rwa [add_of_spot hs] at k0
    · rwa [add_of_spot hs, ← Nat.add_assoc] at k1
    · rwa [add_of_spot hs, ← Nat.add_assoc] at k2
end
theorem gKinds : Tryd.prog.globalNamed "glebe/op.kinds" = some 0 := by kernel_rfl
theorem gKindsType : (Tryd.prog.globals[0]?).map (·.type) = some 102 := by kernel_rfl
theorem laid_at {H : Type} (i : Nat) (h : i < 17) : ([.agg [.lit (.int .i64 0), .lit (.int .i64 1), .lit (.int .i64 1)], .agg [.lit (.int .i64 1), .lit (.int .i64 0), .lit (.int .i64 0)], .agg [.lit (.int .i64 0), .lit (.int .i64 1), .lit (.int .i64 2)], .agg [.lit (.int .i64 1), .lit (.int .i64 0), .lit (.int .i64 2)], .agg [.lit (.int .i64 2), .lit (.int .i64 1), .lit (.int .i64 0)], .agg [.lit (.int .i64 2), .lit (.int .i64 1), .lit (.int .i64 0)], .agg [.lit (.int .i64 2), .lit (.int .i64 1), .lit (.int .i64 0)], .agg [.lit (.int .i64 2), .lit (.int .i64 1), .lit (.int .i64 0)], .agg [.lit (.int .i64 2), .lit (.int .i64 1), .lit (.int .i64 0)], .agg [.lit (.int .i64 0), .lit (.int .i64 0), .lit (.int .i64 3)], .agg [.lit (.int .i64 1), .lit (.int .i64 0), .lit (.int .i64 3)], .agg [.lit (.int .i64 0), .lit (.int .i64 1), .lit (.int .i64 4)], .agg [.lit (.int .i64 1), .lit (.int .i64 0), .lit (.int .i64 0)], .agg [.lit (.int .i64 0), .lit (.int .i64 1), .lit (.int .i64 4)], .agg [.lit (.int .i64 2), .lit (.int .i64 1), .lit (.int .i64 0)], .agg [.lit (.int .i64 1), .lit (.int .i64 1), .lit (.int .i64 0)], .agg [.lit (.int .i64 1), .lit (.int .i64 0), .lit (.int .i64 0)]] : List (DataW H))[i]? = some (.agg [.lit (.int .i64 (tk i)), .lit (.int .i64 (lv i)), .lit (.int .i64 (opd i))]) := by
  have : i = 0 ∨ i = 1 ∨ i = 2 ∨ i = 3 ∨ i = 4 ∨ i = 5 ∨ i = 6 ∨ i = 7 ∨ i = 8 ∨ i = 9 ∨ i = 10 ∨ i = 11 ∨ i = 12 ∨ i = 13 ∨ i = 14 ∨ i = 15 ∨ i = 16 := by omega
  rcases this with rfl | rfl | rfl | rfl | rfl | rfl | rfl | rfl | rfl | rfl | rfl | rfl | rfl | rfl | rfl | rfl | rfl <;> rfl
theorem kinds_of_laid {W : World} (h : laidMetH Tryd.prog [("glebe/op.kinds", Rows.laid_glebe_op_kinds)] W) : KindsAt W := by
  obtain ⟨ps, ⟨g', t', cs, fuel, p, q, hg', ht', hvar, hd, _, _⟩, _⟩ := (h : laidMet Tryd.prog [("glebe/op.kinds", Rows.laid_glebe_op_kinds)] W)
  obtain rfl := Option.some.inj (gKinds.symm.trans hg')
  obtain rfl := Option.some.inj (gKindsType.symm.trans ht')
  obtain ⟨xs, m, _, hx, _, hxl, hi⟩ := DataW.trod_array Tryd.underlying102 hd
  have hagg : (Rows.laid_glebe_op_kinds : DataW Unit) = .agg (xs.map (·.1)) := congrArg Prod.fst hx
  have hl : ∀ i, i < 17 → (xs[i]?).map (·.1) = some (.agg [.lit (.int .i64 (tk i)), .lit (.int .i64 (lv i)), .lit (.int .i64 (opd i))]) := by
    intro i hi17
    rw [← List.getElem?_map, ← laid_at i hi17]
    unfold Rows.laid_glebe_op_kinds at hagg
    rw [← DataW.agg.inj hagg]
  have hc : ∀ i, i < 17 → cs[i * 3]? = some (.int .i64 (tk i)) ∧ cs[i * 3 + 1]? = some (.int .i64 (lv i)) ∧ cs[i * 3 + 2]? = some (.int .i64 (opd i)) := by
    intro i hi17
    have h1 := hi i hi17
    obtain ⟨x, hxi, hx1⟩ := Option.map_eq_some_iff.1 (hl i hi17)
    rw [hxi, cellsKind] at h1
    obtain ⟨f0, f1, f2, hu, t0, o0, t1, o1, t2, o2⟩ := typeKind
    obtain ⟨y0, y1, y2, n', hy, _, g0, g1, g2⟩ := Deep.trod_struct3 hu h1
    rw [t0, o0, cellsInt] at g0
    rw [t1, o1, cellsInt] at g1
    rw [t2, o2, cellsInt] at g2
    obtain ⟨z0, e0, r0, _⟩ := DataW.trod_int Tryd.underlying3 g0
    obtain ⟨z1, e1, r1, _⟩ := DataW.trod_int Tryd.underlying3 g1
    obtain ⟨z2, e2, r2, _⟩ := DataW.trod_int Tryd.underlying3 g2
    rw [hy, r0, r1, r2] at hx1
    simp at hx1
    obtain ⟨rfl, rfl, rfl⟩ := hx1
    refine ⟨?_, ?_, ?_⟩
    · have := congrArg (·[0]?) e0
      simpa [List.getElem?_take, List.getElem?_drop] using this
    · have := congrArg (·[0]?) e1
      simpa [List.getElem?_take, List.getElem?_drop, Nat.add_comm, Nat.add_left_comm] using this
    · have := congrArg (·[0]?) e2
      simpa [List.getElem?_take, List.getElem?_drop, Nat.add_comm, Nat.add_left_comm] using this
  intro k hk
  rw [World.var?_cell gKinds hvar k]
  obtain ⟨h0, h1, h2⟩ := hc (k / 3) (by omega)
  have : k = k / 3 * 3 ∨ k = k / 3 * 3 + 1 ∨ k = k / 3 * 3 + 2 := by omega
  rcases this with e | e | e
  · rw [e, h0]; unfold tk; rw [← e]
  · rw [e, h1]; unfold lv; rw [← e]
  · rw [e, h2]; unfold opd; rw [← e]
end Go.Proofs.YtlapliclhfpgkaaDoor
