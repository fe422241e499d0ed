/- RestPw, ForgeD, ForgeT, ForgeE -/
import Derived.Test.YtjioipkfnekigaaGreatDoorPB18
import Derived.Test.YtjioipkfnekigaaGreatDoorPB02
import Derived.Test.YtjioipkfnekigaaGreatDoorPB10
import Derived.Test.YtjioipkfnekigaaGreatDoorPB13
import Derived.Test.YtjioipkfnekigaaGreatDoorPB03
set_option maxRecDepth 100000
set_option maxHeartbeats 8000000
namespace Go.Proofs.YtjioipkfnekigaaGreatDoor
open Go.RowKit
def GivesP (f : FuncId) (args : Array Value) (u : World) (p : List Fn) (er : Int) : Prop :=
  Calls Tryz.prog f args u fun e w' => ∃ oa n cap, e = .returned (.tuple #[.slice oa n cap, .int .i64 er]) ∧ ProgAt w' (.slice oa n cap) p ∧ Kept u w'
def GivesPo (f : FuncId) (args : Array Value) (u : World) (p : List Fn) (er : Int) : Prop :=
  Calls Tryz.prog f args u fun e w' => ∃ oa n cap, e = .returned (.tuple #[.slice oa n cap, .int .i64 er]) ∧ ProgAt w' (.slice oa n cap) p ∧ FnsOk w' u.heap.size (.slice oa n cap) ∧ Kept u w'
theorem restProgs_no (vp ve vv : Value) (w : World) (er : Int) (he : er ≠ 0)
    (HPE : Hid (∀ u, Kept w u → Calls Tryz.prog 6 #[vp] u fun e w' => e = .returned (.int .i64 er) ∧ Kept u w'))
    (HTB : Hid (∀ u, Kept w u → Calls Tryz.prog 12 #[] u fun e w' => e = .returned (.bool true) ∧ Kept u w')) :
    Calls Tryz.prog 4 #[vp, ve, vv] w fun e w' => e = .returned (.bool true) ∧ Kept w w' := by
  have he2 : (er == 0) = false := by simpa using he
  have he3 : (er != 0) = true := by rw [bne_iff_ne]; exact he
  clear he
  go_enter Tryz.func4, Tryz.ntmps4
  go_wp2_with fail
  refine ((unhide HPE) w (Kept.refl w)).mono ?_
  rintro _ w1 ⟨rfl, k1⟩
  have HK := hide k1
  clear k1 HPE
  go_wp2_with fail
  refine ((unhide HTB) _ (unhide HK)).mono ?_
  rintro _ w2 ⟨rfl, k2⟩
  replace HK := hide ((unhide HK).trans k2)
  clear k2 HTB
  go_wp2_with fail
  go_ret
  exact ⟨rfl, unhide HK⟩
theorem restProgs_w (vp ve vv : Value) (w : World) (p pc : List Fn) (er : Int) (T : ByteArray) (hp : Hid (ProgAt w vp p))
    (HPE : Hid (∀ u, Kept w u → Calls Tryz.prog 6 #[vp] u fun e w' => e = .returned (.int .i64 0) ∧ Kept u w'))
    (HOP : Hid (∀ u, Kept w u → Calls Tryz.prog 13 #[vp] u fun e w' => ∃ oa n cap, e = .returned (.slice oa n cap) ∧ ProgAt w' (.slice oa n cap) p ∧ Kept u w'))
    (HSH : Hid (∀ u, Kept w u → Calls Tryz.prog 5 #[vp] u fun e w' => e = .returned (.tuple #[.string T, .int .i64 0]) ∧ Kept u w'))
    (HRT : Hid (∀ u, Kept w u → GivesPo 8 #[.string T] u p 0))
    (HFP : Hid (∀ u, Kept w u → GivesPo 14 #[ve, vv] u pc er))
    (HFR : Hid (∀ u, Kept w u → GivesP 16 #[ve, vv] u pc er))
    (HSP : Hid (∀ u v1 v2 q, ProgAt u v1 q → ProgAt u v2 q → Calls Tryz.prog 11 #[v1, v2] u fun e w' => e = .returned (.bool true) ∧ Kept u w'))
    (HTB : Hid (∀ u, Kept w u → Calls Tryz.prog 12 #[] u fun e w' => e = .returned (.bool true) ∧ Kept u w'))
    (HO : Hid (∀ u, Calls Tryz.prog 15 #[.int .i64 (-1), .int .i64 (-1)] u fun e w' => e = .returned (.agg #[.int .i64 (-1), .int .i64 (-1)]) ∧ Kept u w')) :
    Calls Tryz.prog 4 #[vp, ve, vv] w fun e w' => e = .returned (.bool true) ∧ Kept w w' := by
  have be : (er == er) = true := by simp
  unfold GivesPo at HRT HFP
  unfold GivesP at HFR
  go_enter Tryz.func4, Tryz.ntmps4
  go_wp2_with fail
  refine ((unhide HPE) w (Kept.refl w)).mono ?_
  rintro _ w1 ⟨rfl, k1⟩
  have HK := hide k1
  clear k1 HPE
  go_wp2_with fail
  refine ((unhide HOP) _ (unhide HK)).mono ?_
  rintro _ w2 ⟨om, nm, cm, rfl, hpm, hk⟩
  replace HK := hide ((unhide HK).trans hk)
  have HPM := hide hpm
  clear hk hpm HOP
  go_wp2_with fail
  refine ((unhide HSH) _ (unhide HK)).mono ?_
  rintro _ w3 ⟨rfl, hk⟩
  replace HK := hide ((unhide HK).trans hk)
  replace HPM := hide ((unhide HPM).kept hk)
  clear hk HSH
  have HWK := HK
  have H3 : Hid (Kept w3 w3) := hide (Kept.refl w3)
  go_wp2_with fail
  refine ((unhide HRT) _ (unhide HK)).mono ?_
  rintro _ w4 ⟨ob, nb, cb, rfl, -, hf, hk⟩
  have HFb := hide hf
  replace HK := hide ((unhide HK).trans hk)
  replace H3 := hide ((unhide H3).trans hk)
  clear hk hf
  go_wp2_with fail
  refine ((unhide HFP) _ (unhide HK)).mono ?_
  rintro _ w5 ⟨oc, nc, cc, rfl, -, hf, hk⟩
  have HFc := hide (hf.low (unhide H3).size)
  replace HFb := hide ((unhide HFb).wr (WrP.kept hk))
  replace HK := hide ((unhide HK).trans hk)
  replace H3 := hide ((unhide H3).trans hk)
  clear hk hf
  go_wp2_with fail
  have kL := (Kept.refl w5).alloc (.cells #[.slice ob nb cb, .slice oc nc cc] 22)
  have HA : Hid (LPt w3 (w5.alloc (.cells #[.slice ob nb cb, .slice oc nc cc] 22)) w5.heap.size #[.slice ob nb cb, .slice oc nc cc]) := hide (LPt.make (lays_new rfl) (unhide H3).size ((unhide H3).alloc _) ((unhide HFb).wr (WrP.kept kL)) ((unhide HFc).wr (WrP.kept kL)))
  generalize w5.alloc (.cells #[.slice ob nb cb, .slice oc nc cc] 22) = wl at HA ⊢
  generalize w5.heap.size = L at HA ⊢
  generalize (#[.slice ob nb cb, .slice oc nc cc] : Array Value) = cs at HA
  clear kL HK H3 HFb HFc
  go_loopw [15] (fun s15 wr => ∃ i : Nat, i ≤ 2 ∧ s15 = .int .i64 i ∧ Hid (LPt w3 wr L cs)) (fun s15 _ => 2 - (intOf s15).toNat)
  case atStart => exact ⟨0, by omega, rfl, HA⟩
  case round =>
    obtain ⟨i, hi2, rfl, HJ⟩ := hrel
    clear HA
    by_cases hi : i < 2
    · have i0 : (0 : Int) ≤ (i : Int) := by omega
      have i1 : (i : Int) < 2 := by omega
      obtain ⟨of, nf, cf, q0⟩ := (unhide HJ).prog hi
      have Q0 := hide q0
      clear q0
      go_wp2_with fail
      go_loopw [16] (fun s16 wr => ∃ k : Nat, k ≤ nf ∧ s16 = .int .i64 k ∧ Hid (LPt w3 wr L cs)) (fun s16 _ => nf - (intOf s16).toNat)
      case atStart => exact ⟨0, Nat.zero_le _, rfl, HJ⟩
      case round =>
        obtain ⟨k, hkm, rfl, HJ2⟩ := hrel
        clear HJ
        have x0 := (cell_lays (unhide HJ2).1 i).trans (unhide Q0)
        by_cases hk : k < nf
        · obtain ⟨gf, curf, rfl, hgN, hgf, nfb, hks, fa, fb, oo, no, co, -, -, c2, hops⟩ := (unhide HJ2).fns hi (unhide Q0) hk
          have HGN := hide hgN
          have HKS := hide hks
          have HX : Hid (XPt w3 wr L gf cs curf (.slice oo no co)) := hide ⟨unhide HJ2, hgf, hops⟩
          have C2 := hide c2
          have k0 : (0 : Int) ≤ (k : Int) := by omega
          have k1 : (k : Int) < (nf : Int) := by omega
          clear hgN hgf c2 hops HJ2 hks
          go_wp2_with fail
          go_loopw [17] (fun s17 wr => ∃ j : Nat, j ≤ no ∧ s17 = .int .i64 j ∧ Hid (XPt w3 wr L gf cs curf (.slice oo no co))) (fun s17 _ => no - (intOf s17).toNat)
          case atStart => exact ⟨0, Nat.zero_le _, rfl, HX⟩
          case round =>
            obtain ⟨j, hjm, rfl, HX3⟩ := hrel
            clear x0 HX
            have x0 := (cell_lays (unhide HX3).1.1 i).trans (unhide Q0)
            have y2 := (cell_lays (unhide HX3).2.1 (k * 3 + 2)).trans (unhide C2)
            by_cases hj : j < no
            · have j0 : (0 : Int) ≤ (j : Int) := by omega
              have j1 : (j : Int) < (no : Int) := by omega
              obtain ⟨g, o, cur, v0, v1, rfl, hgo, -, -, -, -, -, nob⟩ := (unhide HX3).2.2.at hj
              have HGO := hide hgo
              clear hgo
              go_wp2_with fail
              clear x0 y2
              have HS0 : Hid (XPt w3 wr.drew L gf cs curf (.slice (some ⟨g, o, none⟩) no co)) := hide ((unhide HX3).kept ((Kept.refl wr).drew))
              refine wp_region_held_drew (S := fun y => XPt w3 y L gf cs curf (.slice (some ⟨g, o, none⟩) no co)) (by kernel_rfl) (unhide HS0) (fun hHeld => ?_)
              refine planY [0, 1, 2, 3, 4, 5, 6, 7, 8] ?_
              repeat
                refine takeY (v := ?_) hHeld (fun u hSu => ?_) ?_
                rotate_left
                · (have y0 := (cell_lays hSu.1.1 i).trans (unhide Q0); have y2 := (cell_lays hSu.2.1 (k * 3 + 2)).trans (unhide C2); (try dsimp only at y0 y2); go_simp) <;> with_reducible rfl
                try simp only [Act.put, List.setIfInBounds_toArray, List.set_cons_zero, List.set_cons_succ]
              refine endY ?_
              refine take_one (i := 9) rfl (by kernel_rfl) (fun K hK => ?_)
              go_simp
              refine ((unhide HO) _).mono ?_
              rintro _ w6 ⟨rfl, k6⟩
              have hS6 : XPt w3 w6 L gf cs curf (.slice (some ⟨g, o, none⟩) no co) := hHeld.kept k6
              refine hK.out _ _ hS6 (fun hHeld => ?_)
              clear hK K k6
              try simp only [Act.put, List.setIfInBounds_toArray, List.set_cons_zero, List.set_cons_succ]
              refine take_one (i := 10) rfl (by kernel_rfl) (fun K hK => ?_)
              go_simp
              refine hK.out _ _ hHeld (fun hHeld => ?_)
              clear hK K
              try simp only [Act.put, List.setIfInBounds_toArray, List.set_cons_zero, List.set_cons_succ]
              obtain ⟨g', o', cur', e0, e1, eg, -, hg6, q0, q1, f0, f1, -⟩ := hS6.2.2.at hj
              obtain ⟨rfl, rfl⟩ : g = g' ∧ o = o' := by simpa using eg
              have HN := hide (hS6.op (o := o + j * 2) hg6 (unhide HGO))
              clear hg6 hS6 eg HS0
              refine take_one (i := 11) rfl (by kernel_rfl) (fun K hK => ?_)
              go_simp
              refine hK.out _ _ (unhide HN) (fun hHeld => ?_)
              clear hK K
              try simp only [Act.put, List.setIfInBounds_toArray, List.set_cons_zero, List.set_cons_succ]
              refine wpAnyH_done (by kernel_rfl) ?_ _
              clear hHeld q0 q1 f0 f1 HX3
              go_wp2_with fail
              go_roundw
              case rel => exact ⟨j + 1, by omega, by go_num, HN⟩
              case measure => simp [intOf]; omega
            · have hg3 := (unhide HX3).2.1
              have hs3 := unhide HKS
              have y0 := (cell_lays hg3 (k * 3)).trans (Array.getElem?_eq_getElem (by omega))
              have y1 := (cell_lays hg3 (k * 3 + 1)).trans (Array.getElem?_eq_getElem (by omega))
              have f0 := frozen_lays hg3 (k * 3)
              have f1 := frozen_lays hg3 (k * 3 + 1)
              have f2 := frozen_lays hg3 (k * 3 + 2)
              have HN := hide ((unhide HX3).1.fn (j := k) hg3 (unhide HGN) hs3)
              clear hg3 HX3
              go_wp2_with fail
              go_roundw
              case rel => exact ⟨k + 1, by omega, by go_num, HN⟩
              case measure => simp [intOf]; omega
        · go_wp2_with fail
          go_roundw
          case rel => exact ⟨i + 1, by omega, by go_num, HJ2⟩
          case measure => simp [intOf]; omega
    · have HKE := hide (unhide HJ).2.2.1
      obtain rfl : i = 2 := by omega
      have HK := hide ((unhide HWK).trans (unhide HKE))
      replace HPM := hide ((unhide HPM).kept (unhide HKE))
      clear HKE HJ HWK hi hi2
      go_wp2_with fail
      refine ((unhide HRT) _ (unhide HK)).mono ?_
      rintro _ w6 ⟨od, nd, cd, rfl, hpd, -, hk⟩
      replace HK := hide ((unhide HK).trans hk)
      replace HPM := hide ((unhide HPM).kept hk)
      have HPD := hide hpd
      clear hk hpd HRT
      go_wp2_with fail
      refine ((unhide HFP) _ (unhide HK)).mono ?_
      rintro _ w7 ⟨oe, ne, ce, rfl, hpe, -, hk⟩
      replace HK := hide ((unhide HK).trans hk)
      replace HPM := hide ((unhide HPM).kept hk)
      replace HPD := hide ((unhide HPD).kept hk)
      have HPA := hide hpe
      clear hk hpe HFP
      go_wp2_with fail
      refine ((unhide HFR) _ (unhide HK)).mono ?_
      rintro _ w8 ⟨og, ng, cg, rfl, hpg, hk⟩
      replace HK := hide ((unhide HK).trans hk)
      replace HPM := hide ((unhide HPM).kept hk)
      replace HPD := hide ((unhide HPD).kept hk)
      replace HPA := hide ((unhide HPA).kept hk)
      have HPG := hide hpg
      clear hk hpg HFR
      go_wp2_with fail
      refine ((unhide HTB) _ (unhide HK)).mono ?_
      rintro _ w9 ⟨rfl, hk⟩
      replace HK := hide ((unhide HK).trans hk)
      replace HPM := hide ((unhide HPM).kept hk)
      replace HPD := hide ((unhide HPD).kept hk)
      replace HPA := hide ((unhide HPA).kept hk)
      replace HPG := hide ((unhide HPG).kept hk)
      clear hk HTB
      go_wp2_with fail
      refine ((unhide HSP) _ _ _ p ((unhide hp).kept (unhide HK)) (unhide HPM)).mono ?_
      rintro _ y1 ⟨rfl, hk⟩
      replace HK := hide ((unhide HK).trans hk)
      replace HPM := hide ((unhide HPM).kept hk)
      replace HPD := hide ((unhide HPD).kept hk)
      replace HPA := hide ((unhide HPA).kept hk)
      replace HPG := hide ((unhide HPG).kept hk)
      clear hk
      go_wp2_with fail
      refine ((unhide HSP) _ _ _ p (unhide HPD) (unhide HPM)).mono ?_
      rintro _ y2 ⟨rfl, hk⟩
      replace HK := hide ((unhide HK).trans hk)
      replace HPA := hide ((unhide HPA).kept hk)
      replace HPG := hide ((unhide HPG).kept hk)
      clear hk HPM HPD
      go_wp2_with fail
      refine ((unhide HSP) _ _ _ pc (unhide HPA) (unhide HPG)).mono ?_
      rintro _ y3 ⟨rfl, hk⟩
      replace HK := hide ((unhide HK).trans hk)
      clear hk HPA HPG
      go_wp2_with fail
      go_ret
      exact ⟨rfl, unhide HK⟩
open Go.RowKit Go.Maps
def FCode (N : Nat) (w : World) (v : Value) (c : List (Int × Int)) : Prop :=
  ∃ oa cap, v = .slice oa c.length cap ∧ c.length ≤ 8796093022208 ∧ ∀ i x, c[i]? = some x → ∃ b o, oa = some ⟨b, o, none⟩ ∧ N ≤ b ∧
    w.cell? ⟨b, o + i * 2, none⟩ = some (.int .i64 x.1) ∧ w.cell? ⟨b, o + i * 2 + 1, none⟩ = some (.int .i64 x.2) ∧ ∃ cur, w.heap[b]? = some (.cells cur 44)
theorem FCode.code {N : Nat} {w : World} {v : Value} {c : List (Int × Int)} (h : FCode N w v c) : CodeAt w v c := by
  obtain ⟨oa, cap, e, hl, hi⟩ := h
  refine ⟨oa, cap, e, hl, fun i x hx => ?_⟩
  obtain ⟨b, o, e1, _, h1, h2, _⟩ := hi i x hx
  exact ⟨b, o, e1, h1, h2⟩
theorem FCode.kept {N : Nat} {w w' : World} {v : Value} {c : List (Int × Int)} (h : FCode N w v c) (k : Kept w w') : FCode N w' v c := by
  obtain ⟨oa, cap, e, hl, hi⟩ := h
  refine ⟨oa, cap, e, hl, fun i x hx => ?_⟩
  obtain ⟨b, o, e1, e2, h1, h2, cur, h3⟩ := hi i x hx
  exact ⟨b, o, e1, e2, k.cell h1, k.cell h2, cur, lays_kept k h3⟩
theorem FCode.nil (N : Nat) (w : World) : FCode N w (.slice none 0 0) [] := ⟨none, 0, rfl, by simp, fun i x h => by simp at h⟩
theorem FCode.from {N M : Nat} {w : World} {v : Value} {c : List (Int × Int)} (h : FCode N w v c) (hm : M ≤ N) : FCode M w v c := by
  obtain ⟨oa, cap, e, hl, hi⟩ := h
  refine ⟨oa, cap, e, hl, fun i x hx => ?_⟩
  obtain ⟨b, o, e1, e2, h1, h2⟩ := hi i x hx
  exact ⟨b, o, e1, by omega, h1, h2⟩
theorem FCode.set {N : Nat} {w : World} {v : Value} {c : List (Int × Int)} (h : FCode N w v c) {p : Addr} (hp : p.block < N) (u : Value) : FCode N (w.setCell p u) v c := by
  obtain ⟨oa, cap, e, hl, hi⟩ := h
  refine ⟨oa, cap, e, hl, fun i x hx => ?_⟩
  obtain ⟨b, o, e1, e2, h1, h2⟩ := hi i x hx
  have hh : (w.setCell p u).heap[b]? = w.heap[b]? := Below.heap_setCell _ _ _ _ (by omega)
  refine ⟨b, o, e1, e2, ?_, ?_, ?_⟩
  · rw [← h1]; simp only [World.cell?, hh]
  · rw [← h2.1]; simp only [World.cell?, hh]
  · rw [hh]; exact h2.2
theorem SmAt.code {w0 w : World} {B : Nat} {e c : List (Int × Int)} (h : SmAt w0 w B e c) (hl : c.length ≤ 100) : ∃ oa cap, w.cell? ⟨B, 1, none⟩ = some (.slice oa c.length cap) ∧ FCode w0.heap.size w (.slice oa c.length cap) c := by
  obtain ⟨lv, cv, hB, hlow, hnd, hrow, hoff, hk⟩ := h
  rcases hrow.2 with ⟨h1, h0⟩ | ⟨g, cap, cur, rfl, hb, hg, hnc, hcm, hcs, ht⟩
  · have : c = [] := List.length_eq_zero_iff.1 h0
    subst this
    rw [h1] at hB
    exact ⟨none, 0, cell_lays hB 1, FCode.nil _ _⟩
  · refine ⟨some ⟨g, 0, none⟩, cap, cell_lays hB 1, _, cap, rfl, by omega, fun i x hx => ⟨g, 0, rfl, hb, ?_⟩⟩
    have hil : i < c.length := (List.getElem?_eq_some_iff.1 hx).1
    have h2 := flatOps_at c i _ hx
    rw [← ht, List.getElem?_take_of_lt (by omega), List.getElem?_take_of_lt (by omega)] at h2
    rw [cell_lays hg, cell_lays hg]
    exact ⟨by simpa using h2.1, by simpa using h2.2, cur, hg⟩
theorem SmAt.keptw {w0 w : World} {B : Nat} {e c : List (Int × Int)} (h : SmAt w0 w B e c) : Kept w0 w := by
  obtain ⟨lv, cv, hB, hlow, hnd, hrow, hoff, hk⟩ := h
  exact hk
theorem SmAt.new {w0 w : World} {v : Value} {e : List (Int × Int)} (he : NodesAt w0 v e) (hk : Kept w0 w) : SmAt w0 (w.alloc (.cells #[v, .slice none 0 0] 75)) w.heap.size e [] := by
  refine ⟨v, .slice none 0 0, lays_new rfl, hk.size, he, ⟨by simp [flatOps], .inl ⟨rfl, rfl⟩⟩, ?_, hk.alloc _⟩
  intro h
  cases h
def fgS (e : List (Int × Int)) (L : Int) : Fn × Int := if exErrS e L = 0 then (fnS e L, 0) else (Fn.zero, exErrS e L)
def FgPost (g : Fn) (er : Int) (w : World) (e : Ending) (w' : World) : Prop :=
  ∃ cv, e = .returned (.tuple #[.agg #[.int .i64 g.args, .int .i64 g.locals, cv], .int .i64 er]) ∧ FCode w.heap.size w' cv g.code ∧ Kept w w'
theorem forgeFunc_bad (e : List (Int × Int)) (v : Value) (L : Int) (w : World) (HCK : Hid (∀ u, Kept w u → Calls Tryz.prog 54 #[v, .int .i64 L] u fun x u' => x = .returned (.int .i64 (exErrS e L)) ∧ Kept u u')) (hz : exErrS e L ≠ 0) :
    Calls Tryz.prog 34 #[v, .int .i64 L] w (FgPost Fn.zero (exErrS e L) w) := by
  have hz' : (exErrS e L != 0) = true := by rw [bne_iff_ne]; exact hz
  have HC := hide ((unhide HCK) _ ((Kept.refl w).alloc (.cells #[.int .i64 0, .int .i64 0, .slice none 0 0] 42)))
  generalize exErrS e L = r at *
  clear hz HCK
  go_enter Tryz.func34, Tryz.ntmps34
  go_wp2_with fail
  refine (unhide HC).mono ?_
  rintro _ w1 ⟨rfl, hk1⟩
  have l1 := lays_kept hk1 (lays_new (b := w.heap.size) (o := .cells #[.int .i64 0, .int .i64 0, .slice none 0 0] 42) rfl)
  have e0 := cell_lays l1 0
  have e1 := cell_lays l1 1
  have e2 := cell_lays l1 2
  have z0 := frozen_lays l1 0
  have z1 := frozen_lays l1 1
  have z2 := frozen_lays l1 2
  simp only [List.getElem?_toArray, List.getElem?_cons_zero, List.getElem?_cons_succ] at e0 e1 e2
  have H1 := hide (((Kept.refl w).alloc _).trans hk1)
  have L1 := hide l1
  clear hk1 HC l1
  go_wp2
  have hl3 := lays_set (lays_set (lays_set (unhide L1) 0 (.int .i64 0)) 1 (.int .i64 0)) 2 (.slice none 0 0)
  have k0 := cell_lays hl3 0
  have k1 := cell_lays hl3 1
  have k2 := cell_lays hl3 2
  simp only [Array.setIfInBounds, List.size_toArray, List.length_cons, List.length_nil] at k0 k1 k2
  refine bodyPost_ret (v := .tuple #[.agg #[.int .i64 0, .int .i64 0, .slice none 0 0], .int .i64 r]) (by simp [results, Tryz.results34, go_sem, k0, k1, k2]) rfl ?_
  exact ⟨.slice none 0 0, rfl, FCode.nil _ _, (((unhide H1).setCell (p := ⟨w.heap.size, 0, none⟩) (Nat.le_refl _) _).setCell (p := ⟨w.heap.size, 1, none⟩) (Nat.le_refl _) _).setCell (p := ⟨w.heap.size, 2, none⟩) (Nat.le_refl _) _⟩
theorem forgeFunc_go (e : List (Int × Int)) (v : Value) (L : Int) (w : World) (he : NodesAt w v e) (hf : FKinds w) (HCK : Hid (∀ u, Kept w u → Calls Tryz.prog 54 #[v, .int .i64 L] u fun x u' => x = .returned (.int .i64 (exErrS e L)) ∧ Kept u u')) (hz : exErrS e L = 0) :
    Calls Tryz.prog 34 #[v, .int .i64 L] w (FgPost (fnS e L) 0 w) := by
  obtain ⟨L0, L4, l9, hkd, hnm, hone⟩ := exErr_ok hz
  obtain ⟨oa0, cap0, rfl, _, _⟩ := id he
  have hz0 : ∀ x ∈ e, 2 ≤ x.1 → x.2 = 0 := fun x hx h2 => by
    have := hnm x hx
    unfold numOk mostS at this
    rw [if_neg (by omega), if_neg (by omega)] at this
    omega
  have m0 := lay_len 9 e 1 0 l9 (by omega) hone hkd
  have hrest : (valS [] 9 e).2 = [] := by
    obtain ⟨_, _, _, _, o⟩ := val_rest [] 9 e 1 l9 (by omega) hone hkd
    exact one_nil o
  have HC := hide ((unhide HCK) _ ((Kept.refl w).alloc (.cells #[.int .i64 0, .int .i64 0, .slice none 0 0] 42)))
  rw [hz] at HC
  have HPT : Hid (∀ w1, Kept (w.alloc (.cells #[.int .i64 0, .int .i64 0, .slice none 0 0] 42)) w1 → Calls Tryz.prog 55 #[.pointer (some ⟨w1.heap.size, 0, none⟩)] (w1.alloc (.cells #[.slice oa0 e.length cap0, .slice none 0 0] 75)) fun en w' => en = .returned (.tuple #[]) ∧ SmAt w1 w' w1.heap.size [] (layS 9 e 0).1) := hide (fun w1 hk1 => by
    have hk01 := ((Kept.refl w).alloc (.cells #[.int .i64 0, .int .i64 0, .slice none 0 0] 42)).trans hk1
    have := smPart_any w1 w1.heap.size (hide (fun k v' h => hk01.cell (hf k v' h))) 9 1 e [] _ l9 (by omega) hone hkd hz0 (by simp; omega) (SmAt.new (he.kept hk01) (Kept.refl _))
    refine this.mono fun en w' h => ⟨h.1, ?_⟩
    have h2 := h.2.1
    rw [hrest] at h2
    simpa using h2)
  have hcl : (layS 9 e 0).1.length ≤ 20 := by omega
  have hfn : fnS e L = ⟨L, L, (layS 9 e 0).1 ++ [(12, 0)]⟩ := rfl
  rw [hfn]
  generalize (layS 9 e 0).1 = C at *
  clear HCK hz hz0 hkd hnm hone m0 hrest hf hfn he
  go_enter Tryz.func34, Tryz.ntmps34
  go_wp2_with fail
  refine (unhide HC).mono ?_
  rintro _ w1 ⟨rfl, hk1⟩
  have H2 := hide ((unhide HPT) w1 hk1)
  have l1 := lays_kept hk1 (lays_new (b := w.heap.size) (o := .cells #[.int .i64 0, .int .i64 0, .slice none 0 0] 42) rfl)
  have H1 := hide (((Kept.refl w).alloc _).trans hk1)
  have L1 := hide l1
  clear hk1 HC l1 HPT
  go_wp2_with fail
  refine (unhide H2).mono ?_
  rintro _ u1 ⟨rfl, s1⟩
  have H3 := hide (smPut_any w1 u1 _ _ _ 12 0 s1 (by omega))
  clear s1 H2
  go_wp2_with fail
  refine (unhide H3).mono ?_
  rintro _ u2 ⟨rfl, s2, -⟩
  obtain ⟨oa, cap, c1, hcode⟩ := s2.code (by simp; omega)
  have hk2 := s2.keptw
  have l2 := lays_kept hk2 (unhide L1)
  have e0 := cell_lays l2 0
  have e1 := cell_lays l2 1
  have e2 := cell_lays l2 2
  have z0 := frozen_lays l2 0
  have z1 := frozen_lays l2 1
  have z2 := frozen_lays l2 2
  simp only [List.getElem?_toArray, List.getElem?_cons_zero, List.getElem?_cons_succ] at e0 e1 e2
  have HK2 := hide ((unhide H1).trans hk2)
  have L2 := hide l2
  have hsz : w.heap.size < w1.heap.size := (Array.getElem?_eq_some_iff.1 (unhide L1)).1
  have HCO := hide hcode
  generalize hM : (C ++ [((12 : Int), (0 : Int))]).length = M at c1 HCO
  clear s2 hcode hk2 l2 H3 hM
  go_wp2_with fail
  have hl3 := lays_set (lays_set (lays_set (unhide L2) 0 (.int .i64 L)) 1 (.int .i64 L)) 2 (.slice oa M cap)
  have k0 := cell_lays hl3 0
  have k1 := cell_lays hl3 1
  have k2 := cell_lays hl3 2
  simp only [Array.setIfInBounds, List.size_toArray, List.length_cons, List.length_nil] at k0 k1 k2
  refine bodyPost_ret (v := .tuple #[.agg #[.int .i64 L, .int .i64 L, .slice oa M cap], .int .i64 0]) (by simp [results, Tryz.results34, go_sem, k0, k1, k2]) rfl ?_
  refine ⟨_, rfl, ?_, (((unhide HK2).setCell (p := ⟨w.heap.size, 0, none⟩) (Nat.le_refl _) _).setCell (p := ⟨w.heap.size, 1, none⟩) (Nat.le_refl _) _).setCell (p := ⟨w.heap.size, 2, none⟩) (Nat.le_refl _) _⟩
  exact (((((unhide HCO).set (p := ⟨w.heap.size, 0, none⟩) hsz _).set (p := ⟨w.heap.size, 1, none⟩) hsz _).set (p := ⟨w.heap.size, 2, none⟩) hsz _)).from (Nat.le_of_lt hsz)
theorem forgeFunc_any (e : List (Int × Int)) (v : Value) (L : Int) (w : World) (he : NodesAt w v e) (hf : FKinds w) (HCK : Hid (∀ u, Kept w u → Calls Tryz.prog 54 #[v, .int .i64 L] u fun x u' => x = .returned (.int .i64 (exErrS e L)) ∧ Kept u u')) :
    Calls Tryz.prog 34 #[v, .int .i64 L] w (FgPost (fgS e L).1 (fgS e L).2 w) := by
  unfold fgS
  split
  · rename_i h
    exact forgeFunc_go e v L w he hf HCK h
  · rename_i h
    exact forgeFunc_bad e v L w HCK h
end Go.Proofs.YtjioipkfnekigaaGreatDoor
namespace Go.Proofs.YtjioipkfnekigaaGreatDoor
theorem heights_of_consF {p : List Fn} {c : List (Int × Int)} (hr : Right p c) {H : List Int} (a : Cons p c H) (b : Sound p c H) : heightsS p c = some H := by
  obtain ⟨H', h', _⟩ := rounds_all a (c.length + 1) _ (start_mono a).1
  have hh : heightsS p c = some H' := by
    unfold heightsS
    rw [if_neg (by have := a.pos; omega)]
    exact h'
  obtain ⟨a', b'⟩ := heightsS_ok hr hh
  rw [hh, cons_one hr a b a' b']
def OpF (q : Int) (most : Nat) (x : Int × Int) : Prop := (x.1 = 0 ∧ 0 ≤ x.2 ∧ x.2 ≤ 999) ∨ (x.1 = 2 ∧ 0 ≤ x.2 ∧ x.2 < q) ∨ (4 ≤ x.1 ∧ x.1 ≤ 8 ∧ x.2 = 0) ∨ ((x.1 = 9 ∨ x.1 = 10) ∧ 0 ≤ x.2 ∧ x.2 ≤ most)
theorem OpF.more {q : Int} {m m' : Nat} {x : Int × Int} (h : OpF q m x) (hm : m ≤ m') : OpF q m' x := by unfold OpF at h ⊢; omega
theorem lay_ops (q : Int) (vals : List Int) : ∀ (n : Nat) (e : List (Int × Int)) (o : Int) (h : Nat), e.length ≤ n → 1 ≤ o → onlyS e o = true → (∀ x ∈ e, kindOk x) → (∀ x ∈ e, numOk q x) →
    (∀ x ∈ (layS n e h).1, OpF q (h + (layS n e h).1.length) x) ∧ (layS n e h).1.length ≤ 2 * (e.length - (valS vals n e).2.length)
  | n, [], o, _, _, ho, h, _, _ => by simp [onlyS] at h; omega
  | 0, x :: r, o, _, hl, _, _, _, _ => by simp at hl
  | n + 1, x :: r, o, h, hl, ho, ho1, hk, hn => by
    have hx := hk x (by simp)
    have hnx := hn x (by simp)
    have hr : ∀ y ∈ r, kindOk y := fun y hy => hk y (by simp [hy])
    have hnr : ∀ y ∈ r, numOk q y := fun y hy => hn y (by simp [hy])
    have hl' : r.length ≤ n := by simpa using hl
    simp only [onlyS] at ho1
    rw [if_neg (by omega)] at ho1
    unfold kindOk at hx
    unfold numOk mostS at hnx
    unfold layS valS
    by_cases h0 : x.1 = 0
    · simp only [h0, if_true] at hnx ⊢
      refine ⟨fun y hy => ?_, by simp⟩
      obtain rfl := List.mem_singleton.1 hy
      exact .inl ⟨rfl, hnx⟩
    · simp only [h0, if_false] at hnx ⊢
      by_cases h1 : x.1 = 1
      · simp only [h1, if_true] at hnx ⊢
        refine ⟨fun y hy => ?_, by simp⟩
        obtain rfl := List.mem_singleton.1 hy
        exact .inr (.inl ⟨rfl, hnx.1, by show x.2 < q; omega⟩)
      · simp only [h1, if_false] at hnx ⊢
        obtain ⟨_, _, a3⟩ := lay_hg n r h 0 vals
        by_cases h7 : x.1 = 7
        · simp only [h7, if_true]
          have hp : partsS x.1 = 3 := by rw [h7]; rfl
          rw [hp] at ho1
          obtain ⟨j1, p1, q1, e1, o1⟩ := val_rest vals n r (o - 1 + 3) hl' (by omega) ho1 hr
          obtain ⟨l1, _, k1, n1⟩ := val_next vals n r (o - 1 + 3) q hl' (by omega) ho1 hr hnr
          obtain ⟨j2, p2, q2, e2, o2⟩ := val_rest vals n _ (o - 1 + 3 - 1) l1 (by omega) o1 k1
          obtain ⟨l2, _, k2, n2⟩ := val_next vals n _ (o - 1 + 3 - 1) q l1 (by omega) o1 k1 n1
          obtain ⟨j3, p3, q3, e3, o3⟩ := val_rest vals n _ (o - 1 + 3 - 1 - 1) l2 (by omega) o2 k2
          have w1 : (valS vals n r).2.length = r.length - j1 := by rw [e1]; simp
          have w2 : (valS vals n (valS vals n r).2).2.length = (valS vals n r).2.length - j2 := by rw [e2]; simp
          have w3 : (valS vals n (valS vals n (valS vals n r).2).2).2.length = (valS vals n (valS vals n r).2).2.length - j3 := by rw [e3]; simp
          rw [a3]
          obtain ⟨_, _, b3⟩ := lay_hg n (valS vals n r).2 (h + (layS n r h).1.length + 1) 0 vals
          rw [b3]
          have sa := lay_ops q vals n r (o - 1 + 3) h hl' (by omega) ho1 hr hnr
          have sb := lay_ops q vals n _ (o - 1 + 3 - 1) (h + (layS n r h).1.length + 1) l1 (by omega) o1 k1 n1
          have sd := lay_ops q vals n _ (o - 1 + 3 - 1 - 1) (h + (layS n r h).1.length + 1 + (layS n (valS vals n r).2 (h + (layS n r h).1.length + 1)).1.length + 1) l2 (by omega) o2 k2 n2
          simp only [List.length_append, List.length_cons]
          generalize layS n r h = A at *
          generalize layS n (valS vals n r).2 (h + A.1.length + 1) = B at *
          generalize layS n (valS vals n (valS vals n r).2).2 (h + A.1.length + 1 + B.1.length + 1) = D at *
          refine ⟨fun y hy => ?_, by omega⟩
          rcases List.mem_append.1 hy with hy | hy
          · exact (sa.1 y hy).more (by omega)
          rcases List.mem_cons.1 hy with rfl | hy
          · exact .inr (.inr (.inr ⟨.inr rfl, by simp only; omega, by simp only; omega⟩))
          rcases List.mem_append.1 hy with hy | hy
          · exact (sb.1 y hy).more (by omega)
          rcases List.mem_cons.1 hy with rfl | hy
          · exact .inr (.inr (.inr ⟨.inl rfl, by simp only; omega, by simp only; omega⟩))
          · exact (sd.1 y hy).more (by omega)
        · simp only [h7, if_false]
          have hp : partsS x.1 = 2 := by unfold partsS; rw [if_neg (by omega), if_pos (by omega)]
          rw [hp] at ho1
          obtain ⟨j1, p1, q1, e1, o1⟩ := val_rest vals n r (o - 1 + 2) hl' (by omega) ho1 hr
          obtain ⟨l1, _, k1, n1⟩ := val_next vals n r (o - 1 + 2) q hl' (by omega) ho1 hr hnr
          obtain ⟨j2, p2, q2, e2, o2⟩ := val_rest vals n _ (o - 1 + 2 - 1) l1 (by omega) o1 k1
          have w1 : (valS vals n r).2.length = r.length - j1 := by rw [e1]; simp
          have w2 : (valS vals n (valS vals n r).2).2.length = (valS vals n r).2.length - j2 := by rw [e2]; simp
          rw [a3]
          have sa := lay_ops q vals n r (o - 1 + 2) h hl' (by omega) ho1 hr hnr
          have sb := lay_ops q vals n _ (o - 1 + 2 - 1) (h + (layS n r h).1.length) l1 (by omega) o1 k1 n1
          simp only [List.length_append, List.length_cons, List.length_nil]
          generalize layS n r h = A at *
          generalize layS n (valS vals n r).2 (h + A.1.length) = B at *
          refine ⟨fun y hy => ?_, by omega⟩
          rcases List.mem_append.1 hy with hy | hy
          · exact (sa.1 y hy).more (by omega)
          rcases List.mem_append.1 hy with hy | hy
          · exact (sb.1 y hy).more (by omega)
          · obtain rfl := List.mem_singleton.1 hy
            exact .inr (.inr (.inl ⟨by show 4 ≤ x.1 + 2; omega, by show x.1 + 2 ≤ 8; omega, rfl⟩))
def fnH (e : List (Int × Int)) : List Int := (hgS 9 e 0).1 ++ [1]
theorem At.self {α : Type} (c d : List α) : At (c ++ d) 0 c := fun k x hx => by
  rw [Nat.zero_add, List.getElem?_append_left (List.getElem?_eq_some_iff.1 hx).1]; exact hx
structure ExG (e : List (Int × Int)) (L : Int) : Prop where
  lo : 0 ≤ L
  hi : L ≤ 4
  len : e.length ≤ 9
  kinds : ∀ x ∈ e, kindOk x
  nums : ∀ x ∈ e, numOk L x
  one : onlyS e 1 = true
theorem ExG.of {e : List (Int × Int)} {L : Int} (h : exErrS e L = 0) : ExG e L := by
  obtain ⟨a, b, c, d, f, g⟩ := exErr_ok h
  exact ⟨a, b, c, d, f, g⟩
theorem ExG.rest {e : List (Int × Int)} {L : Int} (h : ExG e L) (vals : List Int) : (valS vals 9 e).2 = [] := by
  obtain ⟨_, _, _, _, o⟩ := val_rest vals 9 e 1 h.len (by omega) h.one h.kinds
  exact one_nil o
theorem ExG.most {e : List (Int × Int)} {L : Int} (h : ExG e L) : (layS 9 e 0).1.length ≤ 18 := by
  have := (lay_ops L [] 9 e 1 0 h.len (by omega) h.one h.kinds h.nums).2
  have := h.len
  omega
theorem ExG.seg {e : List (Int × Int)} {L : Int} (h : ExG e L) (p : List Fn) : 0 < (layS 9 e 0).1.length ∧ (fnH e).getD 0 0 = 0 ∧ Seg p (fnS e L).code (fnH e) 0 (layS 9 e 0).1.length := by
  have hr := h.rest []
  have hl := (lay_hg 9 e 0 0 []).1
  have hend : (fnH e).getD (0 + (layS 9 e 0).1.length) 0 = 0 + 1 := by
    unfold fnH
    rw [Nat.zero_add, ← hl]
    simp
  have := lay_seg p (fnS e L).code (fnH e) [] 9 e 1 0 0 h.len (by omega) h.one h.kinds (by omega) (by rw [hr]; have := h.len; simp; omega) (At.self _ _) (At.self _ _) hend
  simpa using this
theorem ExG.cons {e : List (Int × Int)} {L : Int} (h : ExG e L) (p : List Fn) (hright : Right p (fnS e L).code) : Cons p (fnS e L).code (fnH e) ∧ Sound p (fnS e L).code (fnH e) := by
  obtain ⟨s1, s2, s3⟩ := h.seg p
  have hl := (lay_hg 9 e 0 0 []).1
  have hlen : (fnH e).length = (fnS e L).code.length := by simp [fnH, fnS, hl]
  have hcl : (fnS e L).code.length = (layS 9 e 0).1.length + 1 := by simp [fnS]
  have hlast : (fnS e L).code[(layS 9 e 0).1.length]? = some (12, 0) := by simp [fnS]
  have hH : (fnH e).getD (layS 9 e 0).1.length 0 = 1 := by unfold fnH; rw [← hl]; simp
  have hdone : ∀ k, k < (fnS e L).code.length → Done p (fnS e L).code (fnH e) k := fun k hk => by
    by_cases ek : k < (layS 9 e 0).1.length
    · obtain ⟨x, m, q1, q2, q3⟩ := s3 k (Nat.zero_le _) ek
      exact ⟨x, m, q1, q2, fun j hj => ⟨by have := (q3 j hj).1; omega, (q3 j hj).2⟩⟩
    · obtain rfl : k = (layS 9 e 0).1.length := by omega
      refine ⟨(12, 0), 0, hlast, ?_, fun j hj => by simp [nexts] at hj⟩
      rw [hH]
      have he : effS p 12 0 = (1, 0, 0) := by unfold effS; rw [if_pos (by omega), if_neg (by omega)]; rfl
      unfold beh
      rw [he]
      decide
  have hcons : Cons p (fnS e L).code (fnH e) := ⟨hlen, by omega, s2, fun k hk _ => hdone k hk⟩
  refine ⟨hcons, fun k hk => .inr ?_⟩
  have hre : ∀ k, k ≤ (layS 9 e 0).1.length → Reach p (fnS e L).code k ((fnH e).getD k 0) := fun k hk => by
    refine lay_reach (fnS e L).code [] (layS 9 e 0).1.length (fun k => Reach p (fnS e L).code k ((fnH e).getD k 0)) (fun k x j hx hkL hR hj => ?_) 9 e 1 0 h.len (by omega) h.one h.kinds (At.self _ _) (by omega) (by rw [s2]; exact Reach.zero p _) k (Nat.zero_le _) (by omega)
    obtain ⟨x', m, q1, q2, q3⟩ := s3 k (Nat.zero_le _) hkL
    obtain rfl : x = x' := by rw [hx] at q1; exact Option.some.inj q1
    rw [(q3 j hj).2]
    exact hR.step hx q2 hj
  have hR := hre k (by omega)
  exact ⟨(hR.in hcons hright).2.2, hR⟩
theorem opS_of {p : List Fn} {g : Fn} {kd a : Int} (h0 : 0 ≤ kd) (h1 : kd < 17) (h13 : kd ≠ 13) (hm : mayB p g (opd kd.toNat) a = true) : opS p g (kd, a) = 0 := by
  unfold opS
  rw [if_pos ⟨h0, h1⟩, if_pos hm, if_neg (fun h => h13 h.1)]
theorem ExG.right {e : List (Int × Int)} {L : Int} (h : ExG e L) (p : List Fn) : ∀ x ∈ (fnS e L).code, opS p (fnS e L) x = 0 := by
  intro x hx
  have hcl : (fnS e L).code.length = (layS 9 e 0).1.length + 1 := by simp [fnS]
  have hops := (lay_ops L [] 9 e 1 0 h.len (by omega) h.one h.kinds h.nums).1
  have : OpF L (layS 9 e 0).1.length x ∨ x = (12, 0) := by
    rcases List.mem_append.1 (show x ∈ (layS 9 e 0).1 ++ [(12, 0)] from hx) with hx | hx
    · left; simpa using hops x hx
    · right; exact List.mem_singleton.1 hx
  obtain ⟨kd, a⟩ := x
  have hl : ((fnS e L).locals : Int) = L := rfl
  rcases this with (⟨h1, h2, h3⟩ | ⟨h1, h2, h3⟩ | ⟨h1, h2, h3⟩ | ⟨h1, h2, h3⟩) | h1
  · have h1' : kd = 0 := h1
    subst h1'
    exact opS_of (by omega) (by omega) (by omega) (show inB a 0 999 = true from inB_true h2 h3)
  · have h1' : kd = 2 := h1
    subst h1'
    exact opS_of (by omega) (by omega) (by omega) (show ixB a L = true from ixB_iff.2 ⟨h2, h3⟩)
  · have h3' : a = 0 := h3
    subst h3'
    have hk : kd = 4 ∨ kd = 5 ∨ kd = 6 ∨ kd = 7 ∨ kd = 8 := by
      have h1' : 4 ≤ kd := h1
      have h2' : kd ≤ 8 := h2
      omega
    rcases hk with rfl | rfl | rfl | rfl | rfl <;> exact opS_of (by omega) (by omega) (by omega) rfl
  · have h1' : kd = 9 ∨ kd = 10 := h1
    have h2' : 0 ≤ a := h2
    have h3' : a ≤ ((layS 9 e 0).1.length : Int) := h3
    have hi : ixB a (fnS e L).code.length = true := ixB_iff.2 ⟨h2', by rw [hcl]; omega⟩
    rcases h1' with rfl | rfl <;> exact opS_of (by omega) (by omega) (by omega) hi
  · cases h1
    exact opS_of (by omega) (by omega) (by omega) rfl
theorem ExG.heights {e : List (Int × Int)} {L : Int} (h : ExG e L) (p : List Fn) : heightsS p (fnS e L).code = some (fnH e) := by
  have hr : Right p (fnS e L).code := ⟨fnS e L, rfl, h.right p⟩
  obtain ⟨a, b⟩ := h.cons p hr
  exact heights_of_consF hr a b
def mainS (vals : List Int) : Fn := ⟨0, 0, vals.map (fun v => (0, v)) ++ [(11, 1), (12, 0)]⟩
def forgeP (e : List (Int × Int)) (vals : List Int) : List Fn := [mainS vals, fnS e vals.length]
section
variable {e : List (Int × Int)} {vals : List Int}
end
end Go.Proofs.YtjioipkfnekigaaGreatDoor
namespace Go.Proofs.YtjioipkfnekigaaGreatDoor
open Go.RowKit Go.Maps
def valsOk (vals : List Int) : Prop := ∀ v ∈ vals, 0 ≤ v ∧ v ≤ 999
def PgPost (p : List Fn) (er : Int) (w : World) (e : Ending) (w' : World) : Prop :=
  ∃ v', e = .returned (.tuple #[v', .int .i64 er]) ∧ ProgAt w' v' p ∧ Kept w w'
def pgS (e : List (Int × Int)) (vals : List Int) : List Fn × Int :=
  if exErrS e vals.length = 0 then if vals.all (fun v => decide (0 ≤ v ∧ v ≤ 999)) = true then (forgeP e vals, 0) else ([], 3) else ([], exErrS e vals.length)
end Go.Proofs.YtjioipkfnekigaaGreatDoor
