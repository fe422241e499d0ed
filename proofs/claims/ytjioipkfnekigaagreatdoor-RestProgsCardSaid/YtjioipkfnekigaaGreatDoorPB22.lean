/- ForgeH2, ForgeH, ForgeHb, ExprA0 -/
import Derived.Test.YtjioipkfnekigaaGreatDoorPB21
import Derived.Test.YtjioipkfnekigaaGreatDoorPB19
import Derived.Test.YtjioipkfnekigaaGreatDoorPB16
import Derived.Test.YtjioipkfnekigaaGreatDoorPB02
import Derived.Deep.RegionHeld3
set_option maxRecDepth 100000
set_option maxHeartbeats 8000000
namespace Go.Proofs.YtjioipkfnekigaaGreatDoor
open Go.RowKit Go.Maps
theorem take_twoF' {P : Program} {md : Region.Mode} {Q : Exit → Act → World → Prop} {S : World → Prop} {L tl tl' : List Oper} {i k : Nat} {oi ok : Oper} {fuel : Nat} {listed : Array Bool} {a : Act} {w : World} (hd : L.drop i = oi :: tl) (hd' : L.drop k = ok :: tl')
    (hr : Region.ready md L.toArray listed = [i, k])
    (h : ∀ K' : Act → World → Prop, Shut (∀ a w, S w → (S w → wpAnyH P md L.toArray Q S fuel (listed.setIfInBounds i true) a w) → K' a w) → if Region.wanted oi (yielded L.toArray a.tmps) = true then Oper.wp P oi a w K' Q else K' (a.put oi.dst undef) w)
    (h' : ∀ K' : Act → World → Prop, Shut (∀ a w, S w → (S w → wpAnyH P md L.toArray Q S fuel (listed.setIfInBounds k true) a w) → K' a w) → if Region.wanted ok (yielded L.toArray a.tmps) = true then Oper.wp P ok a w K' Q else K' (a.put ok.dst undef) w) :
    wpAnyH P md L.toArray Q S (fuel + 1) listed a w :=
  wpAnyH_ready hr (by simp) (AllReadyH.cons (at_drop hd) h (AllReadyH.cons (at_drop hd') h' AllReadyH.nil))
theorem row_oldF {w : World} {base : Nat} {v : Value} {c : List (Int × Int)} (h : OpsOwn base w v c) : v.ownBlock ≠ some w.heap.size := by
  intro e
  obtain ⟨_, ⟨rfl, _⟩ | ⟨g, cap, cur, rfl, _, hh, _⟩⟩ := h
  · cases e
  · have := (Array.getElem?_eq_some_iff.1 hh).1
    have := Option.some.inj e
    simp at this
    omega
theorem two_at {w : World} {D : Nat} {a b : Int} (h : w.heap[D]? = some (.cells #[.int .i64 a, .int .i64 b] 44)) (j : Nat) (u : Value) (hj : (flatOps [(a, b)])[j]? = some u) : w.cell? ((⟨D, 0, none⟩ : Addr).add j) = some u := by
  rw [add_zero, cell_lays h]
  simpa [flatOps] using hj
theorem laid_two_end {n q h M cn ln cx : Nat} {z : Int} {r r2 A Bl : List (Int × Int)} {w w5 y : World} {ox on : Option Addr} {x : Ending} (HVS : Hid (layS (n + 1) (((q : Int) + 2, z) :: r) h = (A ++ (Bl ++ [((q : Int) + 2 + 2, 0)]), r2)))
    (HO : Hid (OpsOwn w5.heap.size y (.slice ox M cx) ([] ++ A ++ Bl ++ [((q : Int) + 4, (0 : Int))]))) (HN3 : Hid (NodesAt w5 (.slice on ln cn) r2)) (HKE : Hid (Kept w5 y)) (HK2 : Hid (Kept w w5)) (hx : x = .returned (.tuple #[.slice ox M cx, .slice on ln cn])) :
    LaidPost (n + 1) (((q : Int) + 2, z) :: r) h w x y := by
  refine ⟨_, _, hx, ?_, ?_, (unhide HK2).trans (unhide HKE)⟩
  · rw [unhide HVS]
    have h5 := (unhide HO).low (unhide HK2).size
    have e : [] ++ A ++ Bl ++ [((q : Int) + 4, (0 : Int))] = A ++ (Bl ++ [((q : Int) + 2 + 2, 0)]) := by simp; omega
    rw [e] at h5
    exact h5
  · rw [unhide HVS]; exact (unhide HN3).kept (unhide HKE)
theorem laid_two (n : Nat) (IH : Hid (∀ (e : List (Int × Int)) (o : Int) (h : Nat) (v : Value) (w : World), e.length ≤ n → 1 ≤ o → onlyS e o = true → (∀ x ∈ e, kindOk x) → h + 2 * e.length ≤ 60 → NodesAt w v e → Calls Tryz.prog 57 #[v, .int .i64 h] w (LaidPost n e h w))) (k z : Int) (r : List (Int × Int)) (o : Int) (h : Nat) (v : Value) (w : World) (hl : ((k, z) :: r).length ≤ n + 1) (ho : 1 ≤ o) (h1 : onlyS ((k, z) :: r) o = true) (hk : ∀ x ∈ (k, z) :: r, kindOk x) (hb : h + 2 * ((k, z) :: r).length ≤ 60) (hv : NodesAt w v ((k, z) :: r)) (h2 : 2 ≤ k) (h6 : k ≤ 6) :
    Calls Tryz.prog 57 #[v, .int .i64 h] w (LaidPost (n + 1) ((k, z) :: r) h w) := by
  obtain ⟨q, rfl⟩ : ∃ q : Nat, k = (q : Int) + 2 := ⟨(k - 2).toNat, by omega⟩
  have hx := hk ((q : Int) + 2, z) (by simp)
  obtain ⟨b, o1, cap, rfl, hcap, hrl, c0, c1, hrest⟩ := hv.first
  unfold kindOk at hx
  have hl9 : r.length ≤ n := by simpa using hl
  have hb9 : h + 2 * r.length + 2 ≤ 60 := by simp at hb; omega
  have HY : Hid (∀ u, Kept w u → u.cell? ⟨b, o1, none⟩ = some (.int .i64 ((q : Int) + 2)) ∧ u.cell? ⟨b, o1 + 1, none⟩ = some (.int .i64 z)) := hide (fun u hu => ⟨hu.cell c0, hu.cell c1⟩)
  have HR := hide hrest
  have HH := hide (show onlyS r (o - 1 + partsS ((q : Int) + 2)) = true by simp only [onlyS] at h1; rwa [if_neg (by omega)] at h1)
  have HK := hide (show ∀ y ∈ r, kindOk y from fun y hy => hk y (by simp [hy]))
  clear hrest h1 hk hv c0 c1 hl hb
  obtain ⟨oa, hoa, hsl⟩ := cut_first b o1 r.length cap hcap
  have HOA := hide hoa
  clear hoa
  have h1i : (1 : Int) ≤ ((r.length + 1 : Nat) : Int) := by omega
  have h2i : (0 : Int) < ((r.length + 1 : Nat) : Int) := by omega
  go_enter Tryz.func57, Tryz.ntmps57
  go_wp2_with fail
  go_region_held3 (fun u => u.cell? ⟨b, o1, none⟩ = some (.int .i64 ((q : Int) + 2)) ∧ u.cell? ⟨b, o1 + 1, none⟩ = some (.int .i64 z)) (exact (unhide HY) _ (by repeat (first | exact Kept.refl _ | refine Kept.drew ?_ | refine Kept.alloc ?_ _ | refine Kept.setCell ?_ (by simp) _))) (fail)
  rename_i hheld
  clear hheld
  have HK1 : Hid (Kept w (w.alloc (.cells #[.int .i64 ((q : Int) + 2), .int .i64 z] 100)).drew) := hide ((Kept.refl w).alloc _).drew
  have HNR : Hid (NodesAt (w.alloc (.cells #[.int .i64 ((q : Int) + 2), .int .i64 z] 100)).drew (.slice oa r.length (cap - 1)) r) := hide (((unhide HR) (cap - 1) oa (by omega) (fun hne => (unhide HOA) (by simpa using hne))).kept (unhide HK1))
  have d0 : (w.alloc (.cells #[.int .i64 ((q : Int) + 2), .int .i64 z] 100)).drew.cell? ⟨w.heap.size, 0, none⟩ = some (.int .i64 ((q : Int) + 2)) := cell_lays (lays_drew (lays_new rfl)) 0
  have d1 : (w.alloc (.cells #[.int .i64 ((q : Int) + 2), .int .i64 z] 100)).drew.cell? ⟨w.heap.size, 1, none⟩ = some (.int .i64 z) := cell_lays (lays_drew (lays_new rfl)) 1
  have HSZ : Hid (w.heap.size ≤ w.heap.size) := hide (Nat.le_refl _)
  generalize (w.alloc (.cells #[.int .i64 ((q : Int) + 2), .int .i64 z] 100)).drew = w1 at HK1 HNR d0 d1 ⊢
  clear HY HR hsl HSZ
  generalize w.heap.size = B at d0 d1 ⊢
  have h0 : ((q : Int) + 2) ≠ 0 := by omega
  have h1 : ((q : Int) + 2) ≠ 1 := by omega
  have hp : 2 ≤ partsS ((q : Int) + 2) := by unfold partsS; rw [if_neg (by omega)]; split <;> omega
  have hb0 : (((q : Int) + 2) == 0) = false := beq_eq_false_iff_ne.2 h0
  have hb1 : (((q : Int) + 2) == 1) = false := beq_eq_false_iff_ne.2 h1
  have X1 := hide (lay_next n r (o - 1 + partsS ((q : Int) + 2)) h hl9 (by omega) (unhide HH) (unhide HK))
  go_wp2_with fail
  refine ((unhide IH) r (o - 1 + partsS ((q : Int) + 2)) h _ w1 hl9 (by omega) (unhide HH) (unhide HK) (by omega) (unhide HNR)).mono ?_
  rintro _ w2 ⟨cv2, v2, rfl, hc2, hn2, hk2⟩
  obtain ⟨g2, cp2, rfl, _, _, hr2⟩ := hc2.reads (unhide X1).2.2.2.1
  have d2 := hk2.cell d0
  have HK2 := hide ((unhide HK1).trans hk2)
  have HN2 := hide hn2
  have HR2 := hide hr2
  clear hn2 hk2 hc2 d0 d1 HK1 HNR hr2
  have hv : layS (n + 1) ((((q : Int) + 2), z) :: r) h = ((layS n r h).1 ++ ((layS n (layS n r h).2 (h + (layS n r h).1.length)).1 ++ [((q : Int) + 2 + 2, 0)]), (layS n (layS n r h).2 (h + (layS n r h).1.length)).2) := by
    conv => lhs; unfold layS
    rw [if_neg h0, if_neg h1, if_neg (by show ¬ (q : Int) + 2 = 7; omega)]
  have hp3 : partsS ((q : Int) + 2) = 2 := by unfold partsS; rw [if_neg (by omega), if_pos (by omega)]
  rw [hp3] at X1
  have hb7 : ((q : Int) + 2 == 7) = false := beq_eq_false_iff_ne.2 (by omega)
  have hq5 : (q : Int) < 5 := by omega
  have hq0 : (0 : Int) ≤ (q : Int) := by omega
  clear hp HH h0 h1 hp3 hx h2 h6
  have HVS := hide hv
  clear hv
  generalize layS n r h = PA at X1 HN2 HR2 HVS ⊢
  obtain ⟨A, r1⟩ := PA
  simp only at X1 HN2 HR2 HVS ⊢
  obtain ⟨x1, x2, x3, x4, x5⟩ := unhide X1
  have X2 := hide (lay_next n r1 (o - 1 + 2 - 1) (h + A.length) x1 (by omega) x2 x3)
  have HCB := hide ((unhide IH) r1 (o - 1 + 2 - 1) (h + A.length) v2 w2 x1 (by omega) x2 x3 (by omega) (unhide HN2))
  clear x1 x2 x3 X1
  generalize hAL : A.length = la at *
  have HAL := hide hAL
  rw [show ((h + la : Nat) : Int) = (h : Int) + la by omega] at HCB
  clear hAL
  go_wp2_with fail
  refine (unhide HCB).mono ?_
  rintro _ w3 ⟨cv3, v3, rfl, hc3, hn3, hk3⟩
  obtain ⟨g3, cp3, rfl, _, _, hr3⟩ := hc3.reads (unhide X2).2.2.2.1
  replace HK2 := hide ((unhide HK2).trans hk3)
  replace HR2 : Hid (∀ j u, (flatOps A)[j]? = some u → w3.cell? ((⟨g2, 0, none⟩ : Addr).add j) = some u) := hide (fun j u hj => hk3.cell ((unhide HR2) j u hj))
  have HN3 := hide hn3
  have HR3 := hide hr3
  have d3 := hk3.cell d2
  clear hn3 hk3 hc3 hr3 HN2 HCB d2
  generalize layS n r1 (h + la) = PB at X2 HN3 HR3 HVS ⊢
  obtain ⟨Bl, r2⟩ := PB
  simp only at X2 HN3 HR3 HVS ⊢
  obtain ⟨_, _, _, x4', x5'⟩ := unhide X2
  clear X2
  generalize hBL : Bl.length = lb at *
  have HBL := hide hBL
  clear hBL
  have hsum : la + lb ≤ 60 := by omega
  clear x4 x4' x5 x5'
  go_wp2_with fail
  have L5 : (w3.alloc (.cells #[.int .i64 4, .int .i64 5, .int .i64 6, .int .i64 7, .int .i64 8] 3)).heap[w3.heap.size]? = some (.cells #[.int .i64 4, .int .i64 5, .int .i64 6, .int .i64 7, .int .i64 8] 3) := lays_new rfl
  have x0 : (w3.alloc (.cells #[.int .i64 4, .int .i64 5, .int .i64 6, .int .i64 7, .int .i64 8] 3)).cell? ⟨B, 0, none⟩ = some (.int .i64 ((q : Int) + 2)) := ((Kept.refl w3).alloc _).cell d3
  have x1 : (w3.alloc (.cells #[.int .i64 4, .int .i64 5, .int .i64 6, .int .i64 7, .int .i64 8] 3)).cell? ⟨w3.heap.size, q, none⟩ = some (.int .i64 ((q : Int) + 4)) := by
    rw [cell_lays L5]
    have : q = 0 ∨ q = 1 ∨ q = 2 ∨ q = 3 ∨ q = 4 := by omega
    rcases this with e | e | e | e | e <;> subst e <;> rfl
  have hk5 := (Kept.refl w3).alloc (.cells #[.int .i64 4, .int .i64 5, .int .i64 6, .int .i64 7, .int .i64 8] 3)
  replace HK2 := hide ((unhide HK2).trans hk5)
  replace HR2 : Hid (∀ j u, (flatOps A)[j]? = some u → (w3.alloc (.cells #[.int .i64 4, .int .i64 5, .int .i64 6, .int .i64 7, .int .i64 8] 3)).cell? ((⟨g2, 0, none⟩ : Addr).add j) = some u) := hide (fun j u hj => hk5.cell ((unhide HR2) j u hj))
  replace HR3 : Hid (∀ j u, (flatOps Bl)[j]? = some u → (w3.alloc (.cells #[.int .i64 4, .int .i64 5, .int .i64 6, .int .i64 7, .int .i64 8] 3)).cell? ((⟨g3, 0, none⟩ : Addr).add j) = some u) := hide (fun j u hj => hk5.cell ((unhide HR3) j u hj))
  replace HN3 := hide ((unhide HN3).kept hk5)
  clear hk5 L5 d3
  generalize w3.alloc (.cells #[.int .i64 4, .int .i64 5, .int .i64 6, .int .i64 7, .int .i64 8] 3) = w5 at *
  generalize w3.heap.size = B5 at *
  obtain ⟨on, ln, cn, rfl⟩ : ∃ on ln cn, v3 = .slice on ln cn := by
    obtain ⟨on, cn, e, _⟩ := unhide HN3
    exact ⟨on, _, cn, e⟩
  have hwq : IntKind.i64.wrap (q : Int) = (q : Int) := by rw [IntKind.wrap_i64]; omega
  refine wp_region_held_drew (S := fun y => Kept w5 y) (by kernel_rfl) ((Kept.refl w5).drew) (fun hHeld => ?_)
  refine planY [1, 3, 5, 6, 7, 8, 9, 10, 11, 14] ?_
  repeat
    refine takeY (v := ?_) hHeld (fun u hSu => ?_) ?_
    rotate_left
    · (have y0 := Kept.cell hSu x0; have y1 := Kept.cell hSu x1; (try dsimp only at y0 y1); go_simp) <;> with_reducible rfl
    try simp only [Act.put, List.setIfInBounds_toArray, List.set_cons_zero, List.set_cons_succ]
  refine endY ?_
  refine take_twoF' (i := 0) (k := 12) rfl rfl (by kernel_rfl) (fun K1 hK1 => ?_) (fun K1 hK1 => ?_)
  · skip
    go_simp
    refine hK1.out _ _ (((Kept.refl w5).alloc _).drew) (fun hHeld => ?_)
    have hrow : OpsOwn w5.heap.size (w5.alloc (.cells #[] 44)).drew (.slice (some ⟨w5.heap.size, 0, none⟩) 0 0) [] := OpsOwn.empty (show (w5.alloc (.cells #[] 44)).drew.heap[w5.heap.size]? = some (.cells #[] 44) from (show (w5.alloc (.cells #[] 44)).heap[w5.heap.size]? = _ from lays_new rfl)) (Nat.le_refl _)
    generalize (w5.alloc (.cells #[] 44)).drew = y2 at hrow hHeld ⊢
    refine take_twoF' (i := 2) (k := 12) rfl rfl (by kernel_rfl) (fun K3 hK3 => ?_) (fun K3 hK3 => ?_)
    · skip
      obtain ⟨q4, c4, y4, hr, hrow', hk', hold⟩ := app_ops hHeld hrow ⟨g2, 0, none⟩ la cp2 A (unhide HAL).symm (fun j u hj => Kept.cell hHeld ((unhide HR2) j u hj)) (by have := unhide HAL; have := unhide HBL; simp; omega)
      refine step_appR _ rfl (.tmp 102) (.tmp 103) 40 rfl rfl rfl hr ?_
      simp only [Act.put, List.setIfInBounds_toArray, List.set_cons_zero, List.set_cons_succ]
      refine hK3.out _ _ hk' (fun hHeld => ?_)
      replace hrow := hrow'
      clear hr hk' hold hrow'
      rw [show (([] : List (Int × Int)) ++ A).length = la by have := unhide HAL; have := unhide HBL; simp; omega] at hrow ⊢
      refine take_twoF' (i := 4) (k := 12) rfl rfl (by kernel_rfl) (fun K5 hK5 => ?_) (fun K5 hK5 => ?_)
      · skip
        obtain ⟨q6, c6, y6, hr, hrow', hk', hold⟩ := app_ops hHeld hrow ⟨g3, 0, none⟩ lb cp3 Bl (unhide HBL).symm (fun j u hj => Kept.cell hHeld ((unhide HR3) j u hj)) (by have := unhide HAL; have := unhide HBL; simp; omega)
        refine step_appR _ rfl (.tmp 104) (.tmp 105) 40 rfl rfl rfl hr ?_
        simp only [Act.put, List.setIfInBounds_toArray, List.set_cons_zero, List.set_cons_succ]
        refine hK5.out _ _ hk' (fun hHeld => ?_)
        replace hrow := hrow'
        clear hr hk' hold hrow'
        rw [show (([] : List (Int × Int)) ++ A ++ Bl).length = la + lb by have := unhide HAL; have := unhide HBL; simp; omega] at hrow ⊢
        refine take_oneF (i := 12) rfl (by kernel_rfl) (fun K7 hK7 => ?_)
        go_simp
        refine hK7.out _ _ (Kept.alloc hHeld _) (fun hHeld => ?_)
        have hD : (y6.alloc (.cells #[.int .i64 ((q : Int) + 4), .int .i64 0] 44)).heap[y6.heap.size]? = some (.cells #[.int .i64 ((q : Int) + 4), .int .i64 0] 44) := lays_new rfl
        have hne : (Value.slice _ _ _).ownBlock ≠ some y6.heap.size := row_oldF hrow
        replace hrow := hrow.kept ((Kept.refl y6).alloc (.cells #[.int .i64 ((q : Int) + 4), .int .i64 0] 44))
        generalize (y6.alloc (.cells #[.int .i64 ((q : Int) + 4), .int .i64 0] 44)) = y8 at hD hHeld hrow ⊢
        generalize y6.heap.size = D at hD hne ⊢
        refine take_oneF (i := 13) rfl (by kernel_rfl) (fun K9 hK9 => ?_)
        obtain ⟨q10, c10, y10, hr, hrow', hk', -⟩ := app_ops hHeld hrow ⟨D, 0, none⟩ 1 1 [((q : Int) + 4, 0)] rfl (fun j u hj => two_at hD j u hj) (by have := unhide HAL; have := unhide HBL; simp; omega)
        refine step_appR _ rfl (.tmp 106) (.tmp 114) 40 rfl rfl rfl hr ?_
        simp only [Act.put, List.setIfInBounds_toArray, List.set_cons_zero, List.set_cons_succ]
        refine hK9.out _ _ hk' (fun hHeld => ?_)
        have HO := hide hrow'
        have HKE := hide hk'
        generalize ([] ++ A ++ Bl ++ [((q : Int) + 4, (0 : Int))]).length = M at HO ⊢
        clear hr hk' hrow' hrow hD hne x0 x1
        refine planY [15, 16] ?_
        repeat
          refine takeY (v := ?_) hHeld (fun u hSu => ?_) ?_
          rotate_left
          · go_simp <;> with_reducible rfl
          try simp only [Act.put, List.setIfInBounds_toArray, List.set_cons_zero, List.set_cons_succ]
        refine endY ?_
        refine wpAnyH_done (by kernel_rfl) ?_ _
        clear hHeld
        go_wp2_with fail
        go_ret2
        exact laid_two_end HVS HO HN3 HKE HK2 rfl
      · skip
        go_simp
        refine hK5.out _ _ (Kept.alloc hHeld _) (fun hHeld => ?_)
        have hD : (y4.alloc (.cells #[.int .i64 ((q : Int) + 4), .int .i64 0] 44)).heap[y4.heap.size]? = some (.cells #[.int .i64 ((q : Int) + 4), .int .i64 0] 44) := lays_new rfl
        have hne : (Value.slice _ _ _).ownBlock ≠ some y4.heap.size := row_oldF hrow
        replace hrow := hrow.kept ((Kept.refl y4).alloc (.cells #[.int .i64 ((q : Int) + 4), .int .i64 0] 44))
        generalize (y4.alloc (.cells #[.int .i64 ((q : Int) + 4), .int .i64 0] 44)) = y11 at hD hHeld hrow ⊢
        generalize y4.heap.size = D at hD hne ⊢
        refine take_oneF (i := 4) rfl (by kernel_rfl) (fun K12 hK12 => ?_)
        obtain ⟨q13, c13, y13, hr, hrow', hk', hold⟩ := app_ops hHeld hrow ⟨g3, 0, none⟩ lb cp3 Bl (unhide HBL).symm (fun j u hj => Kept.cell hHeld ((unhide HR3) j u hj)) (by have := unhide HAL; have := unhide HBL; simp; omega)
        refine step_appR _ rfl (.tmp 104) (.tmp 105) 40 rfl rfl rfl hr ?_
        simp only [Act.put, List.setIfInBounds_toArray, List.set_cons_zero, List.set_cons_succ]
        refine hK12.out _ _ hk' (fun hHeld => ?_)
        obtain ⟨hD', hne'⟩ := hold _ _ hD hne
        replace hD := hD'
        replace hne := hne'
        clear hD' hne'
        replace hrow := hrow'
        clear hr hk' hold hrow'
        rw [show (([] : List (Int × Int)) ++ A ++ Bl).length = la + lb by have := unhide HAL; have := unhide HBL; simp; omega] at hrow hne ⊢
        refine take_oneF (i := 13) rfl (by kernel_rfl) (fun K14 hK14 => ?_)
        obtain ⟨q15, c15, y15, hr, hrow', hk', -⟩ := app_ops hHeld hrow ⟨D, 0, none⟩ 1 1 [((q : Int) + 4, 0)] rfl (fun j u hj => two_at hD j u hj) (by have := unhide HAL; have := unhide HBL; simp; omega)
        refine step_appR _ rfl (.tmp 106) (.tmp 114) 40 rfl rfl rfl hr ?_
        simp only [Act.put, List.setIfInBounds_toArray, List.set_cons_zero, List.set_cons_succ]
        refine hK14.out _ _ hk' (fun hHeld => ?_)
        have HO := hide hrow'
        have HKE := hide hk'
        generalize ([] ++ A ++ Bl ++ [((q : Int) + 4, (0 : Int))]).length = M at HO ⊢
        clear hr hk' hrow' hrow hD hne x0 x1
        refine planY [15, 16] ?_
        repeat
          refine takeY (v := ?_) hHeld (fun u hSu => ?_) ?_
          rotate_left
          · go_simp <;> with_reducible rfl
          try simp only [Act.put, List.setIfInBounds_toArray, List.set_cons_zero, List.set_cons_succ]
        refine endY ?_
        refine wpAnyH_done (by kernel_rfl) ?_ _
        clear hHeld
        go_wp2_with fail
        go_ret2
        exact laid_two_end HVS HO HN3 HKE HK2 rfl
    · skip
      go_simp
      refine hK3.out _ _ (Kept.alloc hHeld _) (fun hHeld => ?_)
      have hD : (y2.alloc (.cells #[.int .i64 ((q : Int) + 4), .int .i64 0] 44)).heap[y2.heap.size]? = some (.cells #[.int .i64 ((q : Int) + 4), .int .i64 0] 44) := lays_new rfl
      have hne : (Value.slice _ _ _).ownBlock ≠ some y2.heap.size := row_oldF hrow
      replace hrow := hrow.kept ((Kept.refl y2).alloc (.cells #[.int .i64 ((q : Int) + 4), .int .i64 0] 44))
      generalize (y2.alloc (.cells #[.int .i64 ((q : Int) + 4), .int .i64 0] 44)) = y16 at hD hHeld hrow ⊢
      generalize y2.heap.size = D at hD hne ⊢
      refine take_oneF (i := 2) rfl (by kernel_rfl) (fun K17 hK17 => ?_)
      obtain ⟨q18, c18, y18, hr, hrow', hk', hold⟩ := app_ops hHeld hrow ⟨g2, 0, none⟩ la cp2 A (unhide HAL).symm (fun j u hj => Kept.cell hHeld ((unhide HR2) j u hj)) (by have := unhide HAL; have := unhide HBL; simp; omega)
      refine step_appR _ rfl (.tmp 102) (.tmp 103) 40 rfl rfl rfl hr ?_
      simp only [Act.put, List.setIfInBounds_toArray, List.set_cons_zero, List.set_cons_succ]
      refine hK17.out _ _ hk' (fun hHeld => ?_)
      obtain ⟨hD', hne'⟩ := hold _ _ hD hne
      replace hD := hD'
      replace hne := hne'
      clear hD' hne'
      replace hrow := hrow'
      clear hr hk' hold hrow'
      rw [show (([] : List (Int × Int)) ++ A).length = la by have := unhide HAL; have := unhide HBL; simp; omega] at hrow hne ⊢
      refine take_oneF (i := 4) rfl (by kernel_rfl) (fun K19 hK19 => ?_)
      obtain ⟨q20, c20, y20, hr, hrow', hk', hold⟩ := app_ops hHeld hrow ⟨g3, 0, none⟩ lb cp3 Bl (unhide HBL).symm (fun j u hj => Kept.cell hHeld ((unhide HR3) j u hj)) (by have := unhide HAL; have := unhide HBL; simp; omega)
      refine step_appR _ rfl (.tmp 104) (.tmp 105) 40 rfl rfl rfl hr ?_
      simp only [Act.put, List.setIfInBounds_toArray, List.set_cons_zero, List.set_cons_succ]
      refine hK19.out _ _ hk' (fun hHeld => ?_)
      obtain ⟨hD', hne'⟩ := hold _ _ hD hne
      replace hD := hD'
      replace hne := hne'
      clear hD' hne'
      replace hrow := hrow'
      clear hr hk' hold hrow'
      rw [show (([] : List (Int × Int)) ++ A ++ Bl).length = la + lb by have := unhide HAL; have := unhide HBL; simp; omega] at hrow hne ⊢
      refine take_oneF (i := 13) rfl (by kernel_rfl) (fun K21 hK21 => ?_)
      obtain ⟨q22, c22, y22, hr, hrow', hk', -⟩ := app_ops hHeld hrow ⟨D, 0, none⟩ 1 1 [((q : Int) + 4, 0)] rfl (fun j u hj => two_at hD j u hj) (by have := unhide HAL; have := unhide HBL; simp; omega)
      refine step_appR _ rfl (.tmp 106) (.tmp 114) 40 rfl rfl rfl hr ?_
      simp only [Act.put, List.setIfInBounds_toArray, List.set_cons_zero, List.set_cons_succ]
      refine hK21.out _ _ hk' (fun hHeld => ?_)
      have HO := hide hrow'
      have HKE := hide hk'
      generalize ([] ++ A ++ Bl ++ [((q : Int) + 4, (0 : Int))]).length = M at HO ⊢
      clear hr hk' hrow' hrow hD hne x0 x1
      refine planY [15, 16] ?_
      repeat
        refine takeY (v := ?_) hHeld (fun u hSu => ?_) ?_
        rotate_left
        · go_simp <;> with_reducible rfl
        try simp only [Act.put, List.setIfInBounds_toArray, List.set_cons_zero, List.set_cons_succ]
      refine endY ?_
      refine wpAnyH_done (by kernel_rfl) ?_ _
      clear hHeld
      go_wp2_with fail
      go_ret2
      exact laid_two_end HVS HO HN3 HKE HK2 rfl
  · skip
    go_simp
    refine hK1.out _ _ (((Kept.refl w5).alloc _).drew) (fun hHeld => ?_)
    have hD : (w5.alloc (.cells #[.int .i64 ((q : Int) + 4), .int .i64 0] 44)).drew.heap[w5.heap.size]? = some (.cells #[.int .i64 ((q : Int) + 4), .int .i64 0] 44) := (show (w5.alloc (.cells #[.int .i64 ((q : Int) + 4), .int .i64 0] 44)).heap[w5.heap.size]? = _ from lays_new rfl)
    have hDlt : w5.heap.size < (w5.alloc (.cells #[.int .i64 ((q : Int) + 4), .int .i64 0] 44)).drew.heap.size := (Array.getElem?_eq_some_iff.1 hD).1
    generalize (w5.alloc (.cells #[.int .i64 ((q : Int) + 4), .int .i64 0] 44)).drew = y23 at hD hHeld hDlt ⊢
    generalize hDD : w5.heap.size = D at hD ⊢
    have hne : True := trivial
    refine take_oneF (i := 0) rfl (by kernel_rfl) (fun K24 hK24 => ?_)
    go_simp
    refine hK24.out _ _ (Kept.alloc hHeld _) (fun hHeld => ?_)
    have hrow : OpsOwn w5.heap.size (y23.alloc (.cells #[] 44)) (.slice (some ⟨y23.heap.size, 0, none⟩) 0 0) [] := OpsOwn.empty (show (y23.alloc (.cells #[] 44)).heap[y23.heap.size]? = some (.cells #[] 44) from lays_new rfl) (Nat.le_of_lt hDlt)
    have hne : (Value.slice (some ⟨y23.heap.size, 0, none⟩) 0 0).ownBlock ≠ some D := fun e => by have := Option.some.inj e; simp at this; have := (Array.getElem?_eq_some_iff.1 hD).1; omega
    replace hD := lays_alloc hD (.cells #[] 44)
    generalize (y23.alloc (.cells #[] 44)) = y25 at hrow hHeld hD ⊢
    generalize y23.heap.size = E25 at hrow hne ⊢
    refine take_oneF (i := 2) rfl (by kernel_rfl) (fun K26 hK26 => ?_)
    obtain ⟨q27, c27, y27, hr, hrow', hk', hold⟩ := app_ops hHeld hrow ⟨g2, 0, none⟩ la cp2 A (unhide HAL).symm (fun j u hj => Kept.cell hHeld ((unhide HR2) j u hj)) (by have := unhide HAL; have := unhide HBL; simp; omega)
    refine step_appR _ rfl (.tmp 102) (.tmp 103) 40 rfl rfl rfl hr ?_
    simp only [Act.put, List.setIfInBounds_toArray, List.set_cons_zero, List.set_cons_succ]
    refine hK26.out _ _ hk' (fun hHeld => ?_)
    obtain ⟨hD', hne'⟩ := hold _ _ hD hne
    replace hD := hD'
    replace hne := hne'
    clear hD' hne'
    replace hrow := hrow'
    clear hr hk' hold hrow'
    rw [show (([] : List (Int × Int)) ++ A).length = la by have := unhide HAL; have := unhide HBL; simp; omega] at hrow hne ⊢
    refine take_oneF (i := 4) rfl (by kernel_rfl) (fun K28 hK28 => ?_)
    obtain ⟨q29, c29, y29, hr, hrow', hk', hold⟩ := app_ops hHeld hrow ⟨g3, 0, none⟩ lb cp3 Bl (unhide HBL).symm (fun j u hj => Kept.cell hHeld ((unhide HR3) j u hj)) (by have := unhide HAL; have := unhide HBL; simp; omega)
    refine step_appR _ rfl (.tmp 104) (.tmp 105) 40 rfl rfl rfl hr ?_
    simp only [Act.put, List.setIfInBounds_toArray, List.set_cons_zero, List.set_cons_succ]
    refine hK28.out _ _ hk' (fun hHeld => ?_)
    obtain ⟨hD', hne'⟩ := hold _ _ hD hne
    replace hD := hD'
    replace hne := hne'
    clear hD' hne'
    replace hrow := hrow'
    clear hr hk' hold hrow'
    rw [show (([] : List (Int × Int)) ++ A ++ Bl).length = la + lb by have := unhide HAL; have := unhide HBL; simp; omega] at hrow hne ⊢
    refine take_oneF (i := 13) rfl (by kernel_rfl) (fun K30 hK30 => ?_)
    obtain ⟨q31, c31, y31, hr, hrow', hk', -⟩ := app_ops hHeld hrow ⟨D, 0, none⟩ 1 1 [((q : Int) + 4, 0)] rfl (fun j u hj => two_at hD j u hj) (by have := unhide HAL; have := unhide HBL; simp; omega)
    refine step_appR _ rfl (.tmp 106) (.tmp 114) 40 rfl rfl rfl hr ?_
    simp only [Act.put, List.setIfInBounds_toArray, List.set_cons_zero, List.set_cons_succ]
    refine hK30.out _ _ hk' (fun hHeld => ?_)
    have HO := hide hrow'
    have HKE := hide hk'
    generalize ([] ++ A ++ Bl ++ [((q : Int) + 4, (0 : Int))]).length = M at HO ⊢
    clear hr hk' hrow' hrow hD hne x0 x1
    refine planY [15, 16] ?_
    repeat
      refine takeY (v := ?_) hHeld (fun u hSu => ?_) ?_
      rotate_left
      · go_simp <;> with_reducible rfl
      try simp only [Act.put, List.setIfInBounds_toArray, List.set_cons_zero, List.set_cons_succ]
    refine endY ?_
    refine wpAnyH_done (by kernel_rfl) ?_ _
    clear hHeld
    go_wp2_with fail
    go_ret2
    exact laid_two_end HVS HO HN3 HKE HK2 rfl
theorem laid_any : ∀ (n : Nat) (e : List (Int × Int)) (o : Int) (h : Nat) (v : Value) (w : World), e.length ≤ n → 1 ≤ o → onlyS e o = true → (∀ x ∈ e, kindOk x) → h + 2 * e.length ≤ 60 → NodesAt w v e →
    Calls Tryz.prog 57 #[v, .int .i64 h] w (LaidPost n e h w)
  | n, [], o, h, v, w, _, ho, h1, _, _, _ => by simp [onlyS] at h1; omega
  | 0, x :: r, o, h, v, w, hl, _, _, _, _, _ => by simp at hl
  | n + 1, (k, z) :: r, o, h, v, w, hl, ho, h1, hk, hb, hv => by
    have hx := hk (k, z) (by simp)
    unfold kindOk at hx
    by_cases hk1 : k ≤ 1
    · exact laid_leaf n k z r o h v w hl ho h1 hk hb hv hk1
    · by_cases h7 : k = 7
      · exact laid_if n (hide (laid_any n)) k z r o h v w hl ho h1 hk hb hv h7
      · exact laid_two n (hide (laid_any n)) k z r o h v w hl ho h1 hk hb hv (by omega) (by simp only at hx; omega)
theorem forged_any (e : List (Int × Int)) (v : Value) (L : Int) (w : World) (he : NodesAt w v e) (hl : e.length ≤ 9) (ho : onlyS e 1 = true) (hk : ∀ x ∈ e, kindOk x) :
    Calls Tryz.prog 38 #[v, .int .i64 L] w fun x w' => ∃ cv, x = .returned (.agg #[.int .i64 L, .int .i64 L, cv]) ∧ FCode w.heap.size w' cv (fnS e L).code ∧ Kept w w' := by
  have HC := hide (laid_any 9 e 1 0 v (w.alloc (.cells #[.int .i64 0, .int .i64 0, .slice none 0 0] 42)) hl (by omega) ho hk (by omega) (he.kept ((Kept.refl w).alloc _)))
  obtain ⟨_, _, _, x4, x5⟩ := lay_next 9 e 1 0 hl (by omega) ho hk
  have hfn : (fnS e L).code = (layS 9 e 0).1 ++ [(12, 0)] := rfl
  rw [hfn]
  unfold LaidPost at HC
  generalize (layS 9 e 0).1 = C at *
  generalize (layS 9 e 0).2 = R at *
  have hCl : C.length ≤ 20 := by omega
  clear he ho hk hfn x5 hl
  go_enter Tryz.func38, Tryz.ntmps38
  go_wp2_with fail
  refine (unhide HC).mono ?_
  rintro _ w1 ⟨cv, v', rfl, hc, -, hk1⟩
  obtain ⟨oa', cp, rfl⟩ : ∃ oa' cp, cv = .slice oa' C.length cp := (fRow_slice hc).1
  have l1 := lays_kept hk1 (lays_new (b := w.heap.size) (o := .cells #[.int .i64 0, .int .i64 0, .slice none 0 0] 42) rfl)
  have hw0 : (w.alloc (.cells #[.int .i64 0, .int .i64 0, .slice none 0 0] 42)).heap.size = w.heap.size + 1 := by simp
  have hkw : Kept w (w.alloc (.cells #[.int .i64 0, .int .i64 0, .slice none 0 0] 42)) := (Kept.refl w).alloc _
  generalize w.alloc (.cells #[.int .i64 0, .int .i64 0, .slice none 0 0] 42) = w0 at *
  obtain ⟨o2, c2, y2, hr, hown, hk2, hold⟩ := app_ops (hk1.alloc (.cells #[.int .i64 12, .int .i64 0] 44)) (hc.kept ((Kept.refl w1).alloc (.cells #[.int .i64 12, .int .i64 0] 44))) ⟨w1.heap.size, 0, none⟩ 1 1 [(12, 0)] rfl (fTwo_new _ _ _ _) (by simp; omega)
  have HR := hide hr
  have HO := hide hown
  have HK2 := hide hk2
  have HKW := hide hkw
  have l2 : y2.heap[w.heap.size]? = some (.cells #[.int .i64 0, .int .i64 0, .slice none 0 0] 42) := (hold _ _ (lays_alloc l1 _) (fun e => by have := (fRow_slice hc).2 _ e; omega)).1
  have e0 := cell_lays l2 0
  have e1 := cell_lays l2 1
  have e2 := cell_lays l2 2
  have z0 := frozen_lays l2 0
  have z1 := frozen_lays l2 1
  have z2 := frozen_lays l2 2
  simp only [List.getElem?_toArray, List.getElem?_cons_zero, List.getElem?_cons_succ] at e0 e1 e2
  have L2 := hide l2
  clear hr hown hk2 hkw l1 l2 hold HC hc hk1
  generalize hM : (C ++ [((12 : Int), (0 : Int))]).length = M at *
  have HM := hide hM
  have HCL := hide hCl
  generalize hlc : C.length = lc at HR ⊢
  clear hM x4 hlc
  go_wp2_with (at_builtin; refine unhide ?_)
  refine hide ?_
  refine wpList_appR _ rfl (.tmp 14) (.tmp 16) 40 rfl rfl rfl (unhide HR) ?_
  clear HR
  go_wp2_with fail
  have hl3 := lays_set (lays_set (lays_set (unhide L2) 0 (.int .i64 L)) 1 (.int .i64 L)) 2 (.slice o2 M c2)
  have k0 := cell_lays hl3 0
  have k1 := cell_lays hl3 1
  have k2 := cell_lays hl3 2
  simp only [Array.setIfInBounds, List.size_toArray, List.length_cons, List.length_nil] at k0 k1 k2
  refine bodyPost_ret (v := .agg #[.int .i64 L, .int .i64 L, .slice o2 M c2]) (by simp [results, Tryz.results38, go_sem, k0, k1, k2]) rfl ?_
  have hsz : w.heap.size < w0.heap.size := by omega
  have hcd := (unhide HO).code (by have := unhide HCL; simp; omega)
  exact ⟨_, rfl, (((hcd.set (p := ⟨w.heap.size, 0, none⟩) hsz _).set (p := ⟨w.heap.size, 1, none⟩) hsz _).set (p := ⟨w.heap.size, 2, none⟩) hsz _).from (Nat.le_of_lt hsz), ((((unhide HKW).trans (unhide HK2)).setCell (p := ⟨w.heap.size, 0, none⟩) (Nat.le_refl _) _).setCell (p := ⟨w.heap.size, 1, none⟩) (Nat.le_refl _) _).setCell (p := ⟨w.heap.size, 2, none⟩) (Nat.le_refl _) _⟩
open Go.RowKit
theorem size_any (k : Int) (w : World) : Calls Tryz.prog 56 #[.int .i64 k] w fun e w' => e = .returned (.int .i64 (partsS k)) ∧ w = w' := by
  unfold partsS
  by_cases h1 : k ≤ 1
  · rw [if_pos h1]
    go_enter Tryz.func56, Tryz.ntmps56
    go_wp2
    go_ret
    exact ⟨rfl, rfl⟩
  · rw [if_neg h1]
    by_cases h7 : k < 7
    · rw [if_pos h7]
      go_enter Tryz.func56, Tryz.ntmps56
      go_wp2
      go_ret
      exact ⟨rfl, rfl⟩
    · rw [if_neg h7]
      go_enter Tryz.func56, Tryz.ntmps56
      go_wp2
      go_ret
      exact ⟨rfl, rfl⟩
end Go.Proofs.YtjioipkfnekigaaGreatDoor
