/- StateK -/
import Derived.Test.YtokhibfenccijaaGreatDoorKB34
import Derived.Test.YtokhibfenccijaaGreatDoorKB22
import Derived.Test.YtokhibfenccijaaGreatDoorKB37
import Derived.Deep.RegionHeld3
import Derived.StillTailTactics
import Derived.Deep.DeepCutAuto
set_option maxRecDepth 100000
set_option maxHeartbeats 8000000
namespace Go.Proofs.YtokhibfenccijaaGreatDoor
open Go.RowKit
theorem hgt_of {p : List Fn} (h : progS p = 0) {k : Nat} (hk : k < p.length) : hgtS p k = (hgt p k, 0) := by
  obtain ⟨_, _, hck⟩ := progS_right h
  have hz := hck k hk
  have hh : heightsS p (codeOf p k) = some (hgt p k) := progS_heights h hk
  unfold hgtS
  rw [if_pos hz, Int.toNat_natCast, show (p.getD k Fn.zero).code = codeOf p k from rfl, hh]
theorem infoInts : (Tryz.prog.info? 30).map (fun i => (i.zero, i.size, i.bytes)) = some (some (.slice none 0 0), 1, 24) := by kernel_rfl
theorem make_rows (m : Nat) (hm : m ≤ 1000) (u : World) : (Instr.makeSlice 160 (.int .i64 m) (.int .i64 m)).run Tryz.prog u =
    .ok (.slice (some ⟨u.heap.size, 0, none⟩) m m) (u.alloc (.cells (List.replicate m (Value.slice none 0 0)).toArray 30)) := by
  obtain ⟨i0, hi, hz0, hz1, hz2⟩ := info_parts infoInts
  have h := run_make (P := Tryz.prog) u 160 30 i0 (.slice none 0 0) Tryz.underlying160 hi hz0 .i64 .i64 (m : Int) (m : Int) (by omega) (Int.le_refl _) (by rw [hz2]; omega) (by omega)
  rw [Int.toNat_natCast] at h
  have hm : madeCells #[Value.slice none 0 0] m = (List.replicate m (Value.slice none 0 0)).toArray := by
    apply Array.ext
    · simp [madeCells]
    · intro i h1 h2
      simp [madeCells, Nat.mod_one]
  rw [← hm]
  simpa [hz1, Value.cells] using h
theorem limS_eq (s : St) : limS s = if (decide (s.fibers.length ≤ 5 ∧ s.out.length ≤ 30) && framesLe s.fibers) = true then (if 0 < s.fibers.length then (if (nameB s.now s.fibers.length && callersB s.fibers s.fibers.length) = true then 0 else 3) else 5) else 2 := by
  have hc : (s.fibers.all fun b => inB b.caller (-1) (s.fibers.length - 1)) = callersB s.fibers s.fibers.length := by
    unfold callersB
    congr 1
    funext b
    rw [nameB_inB]
  unfold limS
  rw [hc, ← nameB_inB]
  unfold framesLe
  by_cases h1 : s.fibers.length ≤ 5 ∧ s.out.length ≤ 30
  · rw [if_pos h1, decide_eq_true h1, Bool.true_and]
    by_cases h2 : (s.fibers.all fun b => decide (b.frames.length ≤ 6)) = true
    · rw [if_pos h2, if_pos h2]
      by_cases h3 : 0 < s.fibers.length
      · rw [if_pos h3, if_pos h3]
        cases h4 : nameB s.now s.fibers.length <;> simp
      · rw [if_neg h3, if_neg h3]
    · rw [if_neg h2, if_neg h2]
  · rw [if_neg h1, decide_eq_false h1]
    rfl
theorem judgeS_bad {p : List Fn} {s : St} {e : Int} (h : limS s = e) (he : e ≠ 0) : judgeS p s = e := by
  unfold judgeS; rw [h, if_neg he]
theorem judgeS_form {p : List Fn} {s : St} (h : limS s = 0) (hf : formJ p s = false) : judgeS p s = 1 := by
  unfold judgeS; rw [h, if_pos rfl, hf]; rfl
theorem judgeS_ok {p : List Fn} {s : St} (h : limS s = 0) (hf : formJ p s = true) : judgeS p s = 0 := by
  unfold judgeS; rw [h, if_pos rfl, hf]; rfl
theorem IntsAt.store {w : World} {v : Value} {l : List Int} (h : IntsAt w v l) {B : Nat} {c : Array Value} {t : TypeId} {fr : Nat × Nat} (hb : w.heap[B]? = some (.cells c t fr)) (hc : ∀ (i : Nat) z, c[i]? ≠ some (.int .i64 z)) (j : Nat) (u : Value) : IntsAt (w.setCell ⟨B, j, none⟩ u) v l := by
  obtain ⟨oa, cap, e, hn, hi⟩ := h
  refine ⟨oa, cap, e, hn, fun i z hz => ?_⟩
  obtain ⟨b, o, e1, h1⟩ := hi i z hz
  refine ⟨b, o, e1, ?_⟩
  have hne : b ≠ B := by
    rintro rfl
    rw [cell_lays hb] at h1
    exact hc _ _ h1
  rw [World.cell?_of_block (w := w)]
  · exact h1
  · exact Below.heap_setCell w _ _ _ hne
def isSl : Value → Prop | .slice _ _ _ => True | _ => False
theorem askFiber_any (p : List Fn) (s : St) (v : Value) (i : Nat) (on : Bool) (w : World) (hj : JudgeV w v p s) (hl : HLen p) (hbd : HBound p) (hlim : limS s = 0) (hall : (s.fibers.all fun b => b.frames.all (frameB p)) = true) (hi : i < s.fibers.length) :
    Calls Tryz.prog 127 #[v, .int .i64 i, .bool on] w fun e w' => e = askEnd 1 (jfiberB p s i on) ∧ Kept w w' := by
  obtain ⟨vF, vO, vp, vh, rfl, h1, h2, h3, h4⟩ := id hj
  obtain ⟨of, cf, rfl, hfl, hcell⟩ := id h1
  obtain ⟨bf, off, vf, rfl, k0, k1, hfr⟩ := hcell i _ (getD_of_lt s.fibers i Fb.zero hi)
  have hmem : s.fibers.getD i Fb.zero ∈ s.fibers := List.mem_of_getElem? (getD_of_lt s.fibers i Fb.zero hi)
  have hf6 := (limS_zero hlim).2.2.1 _ hmem
  by_cases hn : 0 < (s.fibers.getD i Fb.zero).frames.length
  · cases on with
    | true => exact askFiber_on p s i _ cf bf off vO vp vh _ vf w hi hj hl hbd k0 hfr rfl hn (by omega) (all_getD hall hi) _ rfl
    | false => exact askFiber_off p s i _ cf bf off vO vp vh _ vf w hi hj hl hbd k0 hfr rfl hn (by omega) (all_getD hall hi) _ rfl
  · obtain ⟨ofr, cfr, rfl, -, -⟩ := hfr
    have h0 : (s.fibers.getD i Fb.zero).frames.length = 0 := by omega
    rw [h0] at k0
    have hje : jfiberB p s i on = !on := by
      unfold jfiberB
      rw [show (s.fibers.getD i Fb.zero).frames = [] from List.length_eq_zero_iff.1 h0]
      rfl
    rw [hje]
    exact askFiber_none i _ cf cfr _ ofr vO vp vh s.now bf off on w hi k0 rfl
theorem judged_any (p : List Fn) (s : St) (vp vs : Value) (w : World) (hp : ProgAt w vp p) (hs : StAt w vs s) (hk : KindsAt w) (hz : progS p = 0) :
    Calls Tryz.prog 88 #[vp, vs] w fun e w' => e = .returned (.int .i64 (judgeS p s)) ∧ Kept w w' := by
  obtain ⟨hp5, hp0, _⟩ := progS_right hz
  obtain ⟨vF, vO, rfl, h1, h2⟩ := id hs
  obtain ⟨of, cf, rfl, _, _⟩ := id h1
  obtain ⟨oo, co, rfl, _, _⟩ := id h2
  obtain ⟨op, cp, rfl, hpl, _⟩ := id hp
  have HP := hide hp
  have HS1 := hide h1
  have HS2 := hide h2
  have HK := hide hk
  have HZ := hide hz
  clear hp hs h1 h2 hk hz
  generalize hn : p.length = n at *
  have HN := hide hn
  clear hn
  generalize hR : judgeS p s = R
  have HR := hide hR
  clear hR
  have hmf : ∀ (fn : Go.Fn) (first cap : Array Value) (w : World), (Instr.makeFunc fn first cap).run Tryz.prog w = .ok (.func fn first cap) w := fun _ _ _ _ => rfl
  go_enter_defers Tryz.func88, Tryz.ntmps88
  go_wp2
  have hlen : HLen p := hlen_of (unhide HZ)
  have HLEN := hide hlen
  have HBND := hide (hbound_of (unhide HZ))
  clear hlen
  generalize hfl : s.fibers.length = fl at *
  have HFL := hide hfl
  generalize hol : s.out.length = ol at *
  generalize hw1 : (w.alloc (.cells #[.slice of fl cf, .int .i64 s.now, .slice oo ol co] 44)).alloc (.cells #[.int .i64 0] 22) = w1 at *
  generalize hB : w.heap.size = B0 at *
  generalize hBE : B0 + 1 = BE at *
  have L0 : w1.heap[B0]? = some (.cells #[.slice of fl cf, .int .i64 s.now, .slice oo ol co] 44) := by rw [← hw1]; exact lays_alloc (lays_new hB) _
  have L1 : w1.heap[BE]? = some (.cells #[.int .i64 0] 22) := by rw [← hw1]; exact lays_new (by simp [hB, hBE])
  have HK1 : Hid (Kept w w1) := by rw [← hw1]; exact hide (((Kept.refl w).alloc _).alloc _)
  have HBE : Hid (w.heap.size ≤ BE) := hide (by omega)
  have x0 : w1.cell? ⟨B0, 0, none⟩ = some (.slice of fl cf) := cell_at L0 rfl
  have x1 : w1.cell? ⟨B0, 1, none⟩ = some (.int .i64 s.now) := cell_at L0 rfl
  have x2 : w1.cell? ⟨B0, 2, none⟩ = some (.slice oo ol co) := cell_at L0 rfl
  have lx := cell_lt x0
  simp only at lx
  have HL1 := hide L1
  have hmk := make_rows n (by omega)
  clear hw1 hB hBE L0 L1
  go_cut [5] from 10 to 15 (fun s5 wx => ∃ BJ BH : Nat, s5 = .pointer (some ⟨BJ, 0, none⟩) ∧ Hid (wx.heap[BJ]? = some (.cells #[.slice of fl cf, .int .i64 s.now, .slice oo ol co, .slice op n cp, .slice (some ⟨BH, 0, none⟩) n n] 162)) ∧ Hid (wx.heap[BH]? = some (.cells (Array.replicate n (Value.slice none 0 0)) 30)) ∧ Hid (w1.heap.size ≤ BJ ∧ w1.heap.size ≤ BH ∧ BJ ≠ BH) ∧ Hid (Kept w1 wx))
  case first =>
    go_region
    all_goals go_wp2_with fail
    all_goals go_meet
    all_goals first
      | exact ⟨w1.heap.size, w1.heap.size + 1, rfl, lays_drew (lays_alloc (lays_new rfl) _), lays_drew (lays_new (by simp)), ⟨by omega, by omega, by omega⟩, (((Kept.refl w1).alloc _).alloc _).drew⟩
      | exact ⟨w1.heap.size + 1, w1.heap.size, rfl, lays_drew (lays_new (by simp)), lays_drew (lays_alloc (lays_new rfl) _), ⟨by omega, by omega, by omega⟩, (((Kept.refl w1).alloc _).alloc _).drew⟩
  case rest =>
    obtain ⟨BJ, BH, rfl, HJ, HH, HNE, HKx⟩ := hcut
    have hht : ∀ (k : Nat) (u : World), k < n → Kept w u → Calls Tryz.prog 57 #[.slice op n cp, .int .i64 k] u fun e u' => ∃ oa cap, e = .returned (.tuple #[.slice oa (hgt p k).length cap, .int .i64 0]) ∧ IntsAt u' (.slice oa (hgt p k).length cap) (hgt p k) ∧ Kept u u' := fun k u hk hu => by
      have := heights_any p (.slice op n cp) k u ((unhide HP).kept hu) ((unhide HK).kept hu)
      unfold HgtPost at this
      rw [hgt_of (unhide HZ) (by rw [unhide HN]; exact hk)] at this
      refine this.mono ?_
      rintro e u' ⟨v, rfl, hv, hk'⟩
      obtain ⟨oa, cap, rfl, -, -⟩ := id hv
      exact ⟨oa, cap, rfl, hv, hk'⟩
    have HHT := hide hht
    clear hht
    go_wp2
    go_loopw [18] (fun s18 wr => ∃ (k : Nat) (vals : List Value), k ≤ n ∧ s18 = .int .i64 k ∧ Hid (vals.length = n) ∧ Hid (wr.heap[BH]? = some (.cells vals.toArray 30)) ∧ Hid (∀ (i : Nat) u, vals[i]? = some u → isSl u) ∧ Hid (∀ i, i < k → ∃ u, vals[i]? = some u ∧ IntsAt wr u (hgt p i)) ∧ Hid (wr.heap[BJ]? = some (.cells #[.slice of fl cf, .int .i64 s.now, .slice oo ol co, .slice op n cp, .slice (some ⟨BH, 0, none⟩) n n] 162)) ∧ Hid (Kept w1 wr)) (fun s18 _ => n - (intOf s18).toNat)
    case atStart =>
      refine ⟨0, List.replicate n (.slice none 0 0), Nat.zero_le _, rfl, hide (by simp), hide (by rw [List.toArray_replicate]; exact unhide HH), hide ?_, hide (fun i hi => by omega), HJ, HKx⟩
      intro i u hu
      rw [List.getElem?_replicate] at hu
      split at hu
      · cases hu; trivial
      · cases hu
    case round =>
      obtain ⟨k, vals, hkm, rfl, HVL, HVB, HSL, HVI, HJr, HKr⟩ := hrel
      by_cases hlt : k < n
      · have hkv : k < vals.length := by rw [unhide HVL]; exact hlt
        have y4 : wr.cell? ⟨BJ, 4, none⟩ = some (.slice (some ⟨BH, 0, none⟩) n n) := cell_at (unhide HJr) rfl
        have yk : wr.cell? ⟨BH, k, none⟩ = some (vals.getD k undef) := cell_at (unhide HVB) (by simp [List.getD, hkv])
        have zk : ∀ u, Kept wr u → u.frozen? ⟨BH, k, none⟩ = false := fun u hu => frozen_lays (lays_kept hu (unhide HVB)) k
        have HY : Hid (∀ u, Kept wr u → u.cell? ⟨BJ, 4, none⟩ = some (.slice (some ⟨BH, 0, none⟩) n n) ∧ u.cell? ⟨BH, k, none⟩ = some (vals.getD k undef) ∧ u.frozen? ⟨BH, k, none⟩ = false) := hide (fun u hu => ⟨hu.cell y4, hu.cell yk, zk u hu⟩)
        have HHK := hide (fun (u : World) (hu : Kept wr u) => (unhide HHT) k u hlt (((unhide HK1).trans (unhide HKr)).trans hu))
        have hk1 : (k : Int) < (n : Int) := by omega
        have hkz : (0 : Int) ≤ (k : Int) := by omega
        clear y4 yk zk hkv
        go_wp2_with fail
        go_region_held3 (fun u => u.cell? ⟨BJ, 4, none⟩ = some (.slice (some ⟨BH, 0, none⟩) n n))
          (first | exact cell_set_ne ((unhide HY) _ (Kept.trans (by repeat (first | exact Kept.refl _ | refine Kept.drew ?_ | refine Kept.alloc ?_ _)) hkA)).1 (unhide HNE).2.2 _ | exact ((unhide HY) _ (Kept.trans (Kept.trans (by repeat (first | exact Kept.refl _ | refine Kept.drew ?_ | refine Kept.alloc ?_ _)) hkA) (by repeat (first | exact Kept.refl _ | refine Kept.drew ?_ | refine Kept.alloc ?_ _)))).1 | exact ((unhide HY) _ (by repeat (first | exact Kept.refl _ | refine Kept.drew ?_ | refine Kept.alloc ?_ _))).1)
          (first | (go_at_call 57; refine ((unhide HHK) _ (by repeat (first | exact Kept.refl _ | refine Kept.drew ?_ | refine Kept.alloc ?_ _))).mono ?_; rintro e wA ⟨oa, cap, rfl, hvA, hkA⟩; obtain ⟨-, hyk, hzk⟩ := (unhide HY) _ (Kept.trans (by repeat (first | exact Kept.refl _ | refine Kept.drew ?_ | refine Kept.alloc ?_ _)) hkA); have HVA := hide hvA; clear hvA))
        all_goals go_wp2_with fail
        have hkA2 : Kept wr wA := Kept.trans (by repeat (first | exact Kept.refl _ | refine Kept.drew ?_ | refine Kept.alloc ?_ _)) hkA
        have hLA := lays_kept hkA2 (unhide HVB)
        have hno : ∀ (i : Nat) z, vals.toArray[i]? ≠ some (.int .i64 z) := fun i z h => by
          have := (unhide HSL) i _ (by simpa using h)
          exact this
        go_roundw
        case rel =>
          refine ⟨k + 1, vals.set k (.slice oa (hgt p k).length cap), by omega, by go_num, hide (by rw [List.length_set]; exact unhide HVL), hide (by rw [← List.setIfInBounds_toArray]; exact lays_set hLA k _), hide ?_, hide ?_, hide ?_, hide (((unhide HKr).trans hkA2).setCell (p := ⟨BH, k, none⟩) (unhide HNE).2.1 _)⟩
          · intro i u hu
            rw [List.getElem?_set] at hu
            split at hu
            · split at hu
              · cases hu; trivial
              · cases hu
            · exact (unhide HSL) i u hu
          · intro i hi
            by_cases e : i = k
            · subst e
              exact ⟨_, by rw [List.getElem?_set, if_pos rfl, if_pos (by rw [unhide HVL]; exact hlt)], (unhide HVA).store hLA hno _ _⟩
            · obtain ⟨u, h1, h2⟩ := (unhide HVI) i (by omega)
              exact ⟨u, by rw [List.getElem?_set, if_neg (fun h => e h.symm)]; exact h1, (h2.kept hkA2).store hLA hno k _⟩
          · rw [Below.heap_setCell _ _ _ _ (unhide HNE).2.2]
            exact lays_kept hkA2 (unhide HJr)
        case measure => simp [intOf]; omega
      · have hjv : Hid (JudgeV wr (.agg #[.slice of fl cf, .int .i64 s.now, .slice oo ol co, .slice op n cp, .slice (some ⟨BH, 0, none⟩) n n]) p s) := hide (by
          have hkw := (unhide HK1).trans (unhide HKr)
          refine ⟨_, _, _, _, rfl, (unhide HS1).kept hkw, (unhide HS2).kept hkw, (unhide HP).kept hkw, BH, 0, n, by rw [unhide HN], fun k hk => ?_⟩
          rw [unhide HN] at hk
          obtain ⟨u, h1, h2⟩ := (unhide HVI) k (by omega)
          exact ⟨u, by rw [Nat.zero_add]; exact cell_at (unhide HVB) (by simpa using h1), h2⟩)
        have HKw := hide ((unhide HK1).trans (unhide HKr))
        have hLE := lays_kept (unhide HKr) (unhide HL1)
        have HLE := hide hLE
        have HYJ : Hid (∀ u, Kept wr u → u.cell? ⟨BJ, 0, none⟩ = some (.slice of fl cf) ∧ u.cell? ⟨BJ, 1, none⟩ = some (.int .i64 s.now) ∧ u.cell? ⟨BJ, 2, none⟩ = some (.slice oo ol co) ∧ u.cell? ⟨BJ, 3, none⟩ = some (.slice op n cp) ∧ u.cell? ⟨BJ, 4, none⟩ = some (.slice (some ⟨BH, 0, none⟩) n n)) := hide (fun u hu => ⟨hu.cell (cell_at (unhide HJr) rfl), hu.cell (cell_at (unhide HJr) rfl), hu.cell (cell_at (unhide HJr) rfl), hu.cell (cell_at (unhide HJr) rfl), hu.cell (cell_at (unhide HJr) rfl)⟩)
        clear hLE HVL HVB HSL HVI HJr HHT HJ HH HNE HKx
        obtain ⟨y0, y1, y2, y3, y4⟩ := (unhide HYJ) wr (Kept.refl _)
        have hdn : decide ((k : Int) < (n : Int)) = false := decide_eq_false (by omega)
        by_cases b1 : (decide (s.fibers.length ≤ 5 ∧ s.out.length ≤ 30) && framesLe s.fibers) = true
        · have hal := askLimits_any p s _ wr (unhide hjv) true b1
          have HAL := hide hal
          clear hal
          have hf5 : s.fibers.length ≤ 5 := by
            simp only [Bool.and_eq_true, decide_eq_true_eq] at b1; exact b1.1.1
          have B1 := hide b1
          clear b1
          go_wp2_with fail
          refine (unhide HAL).mono ?_
          rintro e w2 ⟨rfl, hk2⟩
          simp only [askEnd, if_true]
          obtain ⟨z0, z1, z2, z3, z4⟩ := (unhide HYJ) _ (hk2)
          have han := askNumbers_any p s _ w2 ((unhide hjv).kept hk2) (by omega)
          by_cases b2 : 0 < s.fibers.length
          · by_cases b3 : (nameB s.now s.fibers.length && callersB s.fibers s.fibers.length) = true
            · have hlim : limS s = 0 := by rw [limS_eq, unhide B1, if_pos rfl, if_pos b2, b3]; rfl
              have HLIM := hide hlim
              unfold numEnd at han
              rw [if_pos b2, b3] at han
              have HAN := hide han
              clear han hlim b3 y0 y1 y2 y3 y4 HAL
              go_wp2_with fail
              refine (unhide HAN).mono ?_
              rintro e w3 ⟨rfl, hk3⟩
              simp only [askEnd, if_true]
              clear z0 z1 z2 z3 z4 HAN
              obtain ⟨z0, z1, z2, z3, z4⟩ := (unhide HYJ) _ (hk2.trans hk3)
              by_cases b4 : (s.fibers.all fun b => b.frames.all (frameB p)) = true
              · have haf := askFrames_any p s _ w3 ((unhide hjv).kept (hk2.trans hk3)) (unhide HLEN) true b4
                have HAF := hide haf
                have B4 := hide b4
                clear haf b4
                go_wp2_with fail
                refine (unhide HAF).mono ?_
                rintro e w4 ⟨rfl, hk4⟩
                simp only [askEnd, if_true]
                clear z0 z1 z2 z3 z4 HAF
                obtain ⟨z0, z1, z2, z3, z4⟩ := (unhide HYJ) _ ((hk2.trans hk3).trans hk4)
                have hln := askLine_any p s _ w4 ((unhide hjv).kept ((hk2.trans hk3).trans hk4)) (unhide HLIM)
                unfold JLinePost at hln
                cases hjl : jlineS s with
                | none =>
                  rw [hjl] at hln
                  have HLN := hide hln
                  have hres : R = 1 := by
                    rw [← unhide HR]; exact judgeS_form (unhide HLIM) (by unfold formJ; rw [hjl]; simp)
                  subst hres
                  clear hln hjl
                  go_wp2_with fail
                  refine (unhide HLN).mono ?_
                  rintro e w5 ⟨hk5, rfl⟩
                  dsimp only [left]
                  go_wp2_with fail
                  refine leaves_cons (f := 122) (args := #[.pointer (some ⟨BE, 0, none⟩)]) (by simp) (by simp [go_sem]) ?_
                  refine (catch_panicking BE 0 1 [] _ (lays_kept (((hk2.trans hk3).trans hk4).trans hk5) (unhide HLE))).mono ?_
                  rintro e u' w'' ⟨rfl, rfl, rfl⟩
                  have hcE : World.cell? _ ⟨BE, 0, none⟩ = some (Value.int .i64 1) := cell_at (lays_set (lays_kept (((hk2.trans hk3).trans hk4).trans hk5) (unhide HLE)) 0 (.int .i64 1)) rfl
                  simp [Leaves, settle, results, Tryz.results88, go_sem]
                  exact ⟨_, by rw [hcE], rfl, ((unhide HKw).trans (((hk2.trans hk3).trans hk4).trans hk5)).setCell (p := ⟨BE, 0, none⟩) (unhide HBE) _⟩
                | some B =>
                  rw [hjl] at hln
                  simp only [unhide HFL] at hln
                  have HLN := hide hln
                  have HJL := hide hjl
                  clear hln hjl
                  go_wp2_with fail
                  refine (unhide HLN).mono ?_
                  rintro e w5 ⟨hk5, g, rfl, hBL, hLB⟩
                  have HK5 := hide (((hk2.trans hk3).trans hk4).trans hk5)
                  have HBL := hide hBL
                  have HLB := hide hLB
                  clear z0 z1 z2 z3 z4 hk2 hk3 hk4 hk5 hBL hLB HLN
                  obtain ⟨z0, z1, z2, z3, z4⟩ := (unhide HYJ) _ (unhide HK5)
                  go_wp2
                  go_loopw [44] (fun s44 wr => ∃ q : Nat, q ≤ fl ∧ s44 = .int .i64 q ∧ Hid (∀ i, i < q → jfiberB p s i (B.getD i false) = true) ∧ Hid (Kept w5 wr)) (fun s44 _ => fl - (intOf s44).toNat)
                  case atStart => exact ⟨0, Nat.zero_le _, rfl, (fun i hi => by omega), Kept.refl _⟩
                  case round =>
                    obtain ⟨q, hqm, rfl, HQ, HKq⟩ := hrel
                    have hk5 := (unhide HK5).trans (unhide HKq)
                    have HK6 := hide hk5
                    by_cases hlt2 : q < fl
                    · have hcg : ∀ u, Kept wr u → u.cell? ⟨g, q, none⟩ = some (.bool (B.getD q false)) := fun u hu => cell_at (lays_kept ((unhide HKq).trans hu) (unhide HLB)) (flags_get (by rw [unhide HBL]; exact hlt2))
                      have hask := fun (u : World) (hu : Kept wr u) => askFiber_any p s _ q (B.getD q false) u ((unhide hjv).kept (hk5.trans hu)) (unhide HLEN) (unhide HBND) (unhide HLIM) (unhide B4) (by rw [unhide HFL]; exact hlt2)
                      generalize hbq : B.getD q false = bq at *
                      have HBQ := hide hbq
                      have HY15 : Hid (∀ u, Kept wr u → u.cell? ⟨BJ, 0, none⟩ = some (.slice of fl cf) ∧ u.cell? ⟨BJ, 1, none⟩ = some (.int .i64 s.now) ∧ u.cell? ⟨BJ, 2, none⟩ = some (.slice oo ol co) ∧ u.cell? ⟨BJ, 3, none⟩ = some (.slice op n cp) ∧ u.cell? ⟨BJ, 4, none⟩ = some (.slice (some ⟨BH, 0, none⟩) n n) ∧ u.cell? ⟨g, q, none⟩ = some (.bool bq)) := hide (fun u hu => by
                        obtain ⟨z0, z1, z2, z3, z4⟩ := (unhide HYJ) u (hk5.trans hu)
                        exact ⟨z0, z1, z2, z3, z4, hcg u hu⟩)
                      have hq1 : (q : Int) < (fl : Int) := by omega
                      have hqz : (0 : Int) ≤ (q : Int) := by omega
                      clear hcg hbq hk5 z0 z1 z2 z3 z4
                      by_cases hfb : jfiberB p s q bq = true
                      · have HASK : Hid (∀ u, Kept wr u → Calls Tryz.prog 127 #[.agg #[.slice of fl cf, .int .i64 s.now, .slice oo ol co, .slice op n cp, .slice (some ⟨BH, 0, none⟩) n n], .int .i64 q, .bool bq] u fun e w' => e = .returned (.tuple #[]) ∧ Kept u w') := hide (fun u hu => by have := hask u hu; rw [hfb] at this; exact this)
                        have HFB := hide hfb
                        clear hask hfb
                        go_wp2_with fail
                        go_region_held3 (fun u => u.cell? ⟨BJ, 0, none⟩ = some (.slice of fl cf) ∧ u.cell? ⟨BJ, 1, none⟩ = some (.int .i64 s.now) ∧ u.cell? ⟨BJ, 2, none⟩ = some (.slice oo ol co) ∧ u.cell? ⟨BJ, 3, none⟩ = some (.slice op n cp) ∧ u.cell? ⟨BJ, 4, none⟩ = some (.slice (some ⟨BH, 0, none⟩) n n) ∧ u.cell? ⟨g, q, none⟩ = some (.bool bq))
                          (first | exact (unhide HY15) _ (Kept.trans (Kept.trans (by repeat (first | exact Kept.refl _ | refine Kept.drew ?_ | refine Kept.alloc ?_ _)) hkA) (by repeat (first | exact Kept.refl _ | refine Kept.drew ?_ | refine Kept.alloc ?_ _))) | exact (unhide HY15) _ (by repeat (first | exact Kept.refl _ | refine Kept.drew ?_ | refine Kept.alloc ?_ _)))
                          (first | (go_at_call 127; refine ((unhide HASK) _ (by repeat (first | exact Kept.refl _ | refine Kept.drew ?_ | refine Kept.alloc ?_ _))).mono ?_; rintro e wA ⟨rfl, hkA⟩))
                        all_goals go_wp2_with fail
                        go_roundw
                        case rel =>
                          refine ⟨q + 1, by omega, by go_num, ?_, hide (Kept.trans (unhide HKq) (Kept.trans (by repeat (first | exact Kept.refl _ | refine Kept.drew ?_ | refine Kept.alloc ?_ _)) hkA))⟩
                          intro i hi
                          by_cases e : i = q
                          · subst e; rw [unhide HBQ]; exact unhide HFB
                          · exact (unhide HQ) i (by omega)
                        case measure => simp [intOf]; omega
                      · have hff : jfiberB p s q bq = false := by simpa using hfb
                        have HASK : Hid (∀ u, Kept wr u → Calls Tryz.prog 127 #[.agg #[.slice of fl cf, .int .i64 s.now, .slice oo ol co, .slice op n cp, .slice (some ⟨BH, 0, none⟩) n n], .int .i64 q, .bool bq] u fun e w' => e = left 1 ∧ Kept u w') := hide (fun u hu => by have := hask u hu; rw [hff] at this; exact this)
                        have hres : R = 1 := by
                          rw [← unhide HR]
                          refine judgeS_form (unhide HLIM) ?_
                          unfold formJ
                          rw [unhide B4, unhide HJL, Bool.true_and]
                          rw [Bool.eq_false_iff]
                          intro h
                          have := all_range.1 h q (by rw [unhide HFL]; exact hlt2)
                          rw [unhide HBQ, hff] at this
                          cases this
                        subst hres
                        clear hask hfb hff
                        go_wp2_with fail
                        obtain ⟨z0, z1, z2, z3, z4, z5⟩ := (unhide HY15) wr (Kept.refl _)
                        go_still_tail 6, (by kernel_rfl)
                        go_wp2_with (go_at_call 127; refine ((unhide HASK) _ (Kept.refl wr).drew).mono ?_; rintro e wA ⟨rfl, hkA⟩; dsimp only [left])
                        have hkA2 : Kept wr wA := ((Kept.refl wr).drew).trans hkA
                        refine leaves_cons (f := 122) (args := #[.pointer (some ⟨BE, 0, none⟩)]) (by simp) (by simp [go_sem]) ?_
                        refine (catch_panicking BE 0 1 [] _ (lays_kept ((unhide HK6).trans hkA2) (unhide HLE))).mono ?_
                        rintro e u' w'' ⟨rfl, rfl, rfl⟩
                        have hcE : World.cell? _ ⟨BE, 0, none⟩ = some (Value.int .i64 1) := cell_at (lays_set (lays_kept ((unhide HK6).trans hkA2) (unhide HLE)) 0 (.int .i64 1)) rfl
                        simp [Leaves, settle, results, Tryz.results88, go_sem]
                        exact ⟨_, by rw [hcE], rfl, ((unhide HKw).trans ((unhide HK6).trans hkA2)).setCell (p := ⟨BE, 0, none⟩) (unhide HBE) _⟩
                    · have hres : R = 0 := by
                        rw [← unhide HR]
                        refine judgeS_ok (unhide HLIM) ?_
                        unfold formJ
                        rw [unhide B4, unhide HJL, Bool.true_and]
                        exact all_range.2 (fun i hi => (unhide HQ) i (by have := unhide HFL; omega))
                      subst hres
                      have hLE2 := lays_kept hk5 (unhide HLE)
                      have e0 : wr.cell? ⟨BE, 0, none⟩ = some (.int .i64 0) := cell_at hLE2 rfl
                      have e1 := frozen_lays hLE2 0
                      have HLE2 := hide hLE2
                      clear hLE2 z0 z1 z2 z3 z4
                      go_wp2
                      refine leaves_cons (f := 122) (args := #[.pointer (some ⟨BE, 0, none⟩)]) (by simp) (by simp [go_sem]) ?_
                      refine (catch_idle BE _).mono ?_
                      rintro e u' w'' ⟨rfl, rfl, rfl⟩
                      have hcE : World.cell? _ ⟨BE, 0, none⟩ = some (Value.int .i64 0) := cell_at (lays_set (unhide HLE2) 0 (.int .i64 0)) rfl
                      simp [Leaves, settle, results, Tryz.results88, go_sem]
                      exact ⟨_, by rw [hcE], rfl, ((unhide HKw).trans (unhide HK6)).setCell (p := ⟨BE, 0, none⟩) (unhide HBE) _⟩
              · have b4f : (s.fibers.all fun b => b.frames.all (frameB p)) = false := by simpa using b4
                have haf := askFrames_any p s _ w3 ((unhide hjv).kept (hk2.trans hk3)) (unhide HLEN) false b4f
                have HAF := hide haf
                have hres : R = 1 := by
                  rw [← unhide HR]; exact judgeS_form (unhide HLIM) (by unfold formJ; rw [b4f]; rfl)
                subst hres
                clear haf b4 b4f
                go_wp2_with fail
                refine (unhide HAF).mono ?_
                rintro e w4 ⟨rfl, hk4⟩
                dsimp only [askEnd, left]
                go_wp2_with fail
                refine leaves_cons (f := 122) (args := #[.pointer (some ⟨BE, 0, none⟩)]) (by simp) (by simp [go_sem]) ?_
                refine (catch_panicking BE 0 1 [] _ (lays_kept ((hk2.trans hk3).trans hk4) (unhide HLE))).mono ?_
                rintro e u' w'' ⟨rfl, rfl, rfl⟩
                have hcE : World.cell? _ ⟨BE, 0, none⟩ = some (Value.int .i64 1) := cell_at (lays_set (lays_kept ((hk2.trans hk3).trans hk4) (unhide HLE)) 0 (.int .i64 1)) rfl
                simp [Leaves, settle, results, Tryz.results88, go_sem]
                exact ⟨_, by rw [hcE], rfl, ((unhide HKw).trans ((hk2.trans hk3).trans hk4)).setCell (p := ⟨BE, 0, none⟩) (unhide HBE) _⟩
            · have b3f : (nameB s.now s.fibers.length && callersB s.fibers s.fibers.length) = false := by simpa using b3
              have hres : R = 3 := by
                rw [← unhide HR]; exact judgeS_bad (by rw [limS_eq, unhide B1, if_pos rfl, if_pos b2, b3f]; rfl) (by decide)
              subst hres
              unfold numEnd at han
              rw [if_pos b2, b3f] at han
              have HAN := hide han
              clear han b3 b3f y0 y1 y2 y3 y4 HAL
              go_wp2_with fail
              refine (unhide HAN).mono ?_
              rintro e w3 ⟨rfl, hk3⟩
              dsimp only [askEnd, left]
              go_wp2_with fail
              refine leaves_cons (f := 122) (args := #[.pointer (some ⟨BE, 0, none⟩)]) (by simp) (by simp [go_sem]) ?_
              refine (catch_panicking BE 0 3 [] _ (lays_kept (hk2.trans hk3) (unhide HLE))).mono ?_
              rintro e u' w'' ⟨rfl, rfl, rfl⟩
              have hcE : World.cell? _ ⟨BE, 0, none⟩ = some (Value.int .i64 3) := cell_at (lays_set (lays_kept (hk2.trans hk3) (unhide HLE)) 0 (.int .i64 3)) rfl
              simp [Leaves, settle, results, Tryz.results88, go_sem]
              exact ⟨_, by rw [hcE], rfl, ((unhide HKw).trans (hk2.trans hk3)).setCell (p := ⟨BE, 0, none⟩) (unhide HBE) _⟩
          · have hres : R = 5 := by
              rw [← unhide HR]; exact judgeS_bad (by rw [limS_eq, unhide B1, if_pos rfl, if_neg b2]) (by decide)
            subst hres
            unfold numEnd at han
            rw [if_neg b2] at han
            have HAN := hide han
            clear han y0 y1 y2 y3 y4 HAL
            go_wp2_with fail
            refine (unhide HAN).mono ?_
            rintro e w3 ⟨rfl, hk3⟩
            dsimp only [left]
            go_wp2_with fail
            refine leaves_cons (f := 122) (args := #[.pointer (some ⟨BE, 0, none⟩)]) (by simp) (by simp [go_sem]) ?_
            refine (catch_panicking BE 0 5 [] _ (lays_kept (hk2.trans hk3) (unhide HLE))).mono ?_
            rintro e u' w'' ⟨rfl, rfl, rfl⟩
            have hcE : World.cell? _ ⟨BE, 0, none⟩ = some (Value.int .i64 5) := cell_at (lays_set (lays_kept (hk2.trans hk3) (unhide HLE)) 0 (.int .i64 5)) rfl
            simp [Leaves, settle, results, Tryz.results88, go_sem]
            exact ⟨_, by rw [hcE], rfl, ((unhide HKw).trans (hk2.trans hk3)).setCell (p := ⟨BE, 0, none⟩) (unhide HBE) _⟩
        · have b1f : (decide (s.fibers.length ≤ 5 ∧ s.out.length ≤ 30) && framesLe s.fibers) = false := by simpa using b1
          have hal := askLimits_any p s _ wr (unhide hjv) false b1f
          have HAL := hide hal
          have hres : R = 2 := by rw [← unhide HR]; exact judgeS_bad (by rw [limS_eq, b1f]; rfl) (by decide)
          subst hres
          clear hal b1 b1f
          go_wp2_with (go_at_call 123; refine (unhide HAL).mono ?_; rintro e w2 ⟨rfl, hk2⟩; dsimp only [askEnd, left])
          refine leaves_cons (f := 122) (args := #[.pointer (some ⟨BE, 0, none⟩)]) (by simp) (by simp [go_sem]) ?_
          refine (catch_panicking BE 0 2 [] _ (lays_kept (hk2) (unhide HLE))).mono ?_
          rintro e u' w'' ⟨rfl, rfl, rfl⟩
          have hcE : World.cell? _ ⟨BE, 0, none⟩ = some (Value.int .i64 2) := cell_at (lays_set (lays_kept (hk2) (unhide HLE)) 0 (.int .i64 2)) rfl
          simp [Leaves, settle, results, Tryz.results88, go_sem]
          exact ⟨_, by rw [hcE], rfl, ((unhide HKw).trans (hk2)).setCell (p := ⟨BE, 0, none⟩) (unhide HBE) _⟩
def checkS (p : List Fn) (s : St) : Int := if progS p = 0 then judgeS p s else progS p
theorem checkS_ref (p : List Fn) (s : St) : checkS p s = stErrS p s := by
  unfold checkS stErrS
  by_cases h : progS p = 0
  · rw [if_pos h, if_pos h, judge_same (bare_of h)]
  · rw [if_neg h, if_neg h]
theorem stCheck_any (p : List Fn) (s : St) (vp vs : Value) (w : World) (hp : ProgAt w vp p) (hs : StAt w vs s) (hk : KindsAt w) :
    Calls Tryz.prog 59 #[vp, vs] w fun e w' => e = .returned (.int .i64 (stErrS p s)) ∧ Kept w w' := by
  rw [← checkS_ref]
  have hc : ∀ u, Kept w u → Calls Tryz.prog 25 #[vp] u fun e w' => e = .returned (.int .i64 (progS p)) ∧ Kept u w' := fun u hu => progCheck_any p vp u (hp.kept hu) (hk.kept hu)
  obtain ⟨vF, vO, rfl, h1, h2⟩ := id hs
  obtain ⟨of, cf, rfl, -, -⟩ := h1
  obtain ⟨oo, co, rfl, -, -⟩ := h2
  by_cases hz : progS p = 0
  · have hr : checkS p s = judgeS p s := by unfold checkS; rw [if_pos hz]
    rw [hr]
    rw [hz] at hc
    have HC := hide hc
    have HJ := hide (fun (u : World) (hu : Kept w u) => judged_any p s vp _ u (hp.kept hu) (hs.kept hu) (hk.kept hu) hz)
    clear hc hr hp hs hk hz
    go_enter Tryz.func59, Tryz.ntmps59
    go_wp2_with fail
    refine ((unhide HC) _ ((Kept.refl w).alloc _)).mono ?_
    rintro e w1 ⟨rfl, hk1⟩
    have x0 := hk1.cell (show (w.alloc (.cells #[.slice of s.fibers.length cf, .int .i64 s.now, .slice oo s.out.length co] 44)).cell? ⟨w.heap.size, 0, none⟩ = some (.slice of s.fibers.length cf) by simp)
    have x1 := hk1.cell (show (w.alloc (.cells #[.slice of s.fibers.length cf, .int .i64 s.now, .slice oo s.out.length co] 44)).cell? ⟨w.heap.size, 1, none⟩ = some (.int .i64 s.now) by simp)
    have x2 := hk1.cell (show (w.alloc (.cells #[.slice of s.fibers.length cf, .int .i64 s.now, .slice oo s.out.length co] 44)).cell? ⟨w.heap.size, 2, none⟩ = some (.slice oo s.out.length co) by simp)
    have HK1 := hide (((Kept.refl w).alloc _).trans hk1)
    clear hk1
    go_wp2_with fail
    refine ((unhide HJ) _ (unhide HK1)).mono ?_
    rintro e w2 ⟨rfl, hk2⟩
    go_wp2_with fail
    go_ret
    exact ⟨rfl, (unhide HK1).trans hk2⟩
  · have hr : checkS p s = progS p := by unfold checkS; rw [if_neg hz]
    rw [hr]
    have hzb : (progS p != 0) = true := by rw [bne_iff_ne]; exact hz
    have HC := hide hc
    generalize progS p = r at *
    clear hc hr hp hs hk hz
    go_enter Tryz.func59, Tryz.ntmps59
    go_wp2_with fail
    refine ((unhide HC) _ ((Kept.refl w).alloc _)).mono ?_
    rintro e w1 ⟨rfl, hk1⟩
    go_wp2
    go_ret
    exact ⟨rfl, ((Kept.refl w).alloc _).trans hk1⟩
end Go.Proofs.YtokhibfenccijaaGreatDoor
