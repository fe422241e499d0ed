/- TrimB, TrimC, TrimD, GoodF, StateM -/
import Derived.Test.YtokhibfenccijaaGreatDoorKB40
import Derived.Test.YtokhibfenccijaaGreatDoorKB01
import Derived.Test.YtokhibfenccijaaGreatDoorKB13
import Derived.OwnWalk
import Derived.JoinedCond
import Derived.Test.YtokhibfenccijaaGreatDoorKB34
import Derived.Test.YtokhibfenccijaaGreatDoorKB24
import Derived.Test.YtokhibfenccijaaGreatDoorKB26
import Derived.Test.YtokhibfenccijaaGreatDoorKB21
import Derived.Test.YtokhibfenccijaaGreatDoorKB19
import Derived.Test.YtokhibfenccijaaGreatDoorKB31
set_option maxRecDepth 100000
set_option maxHeartbeats 8000000
namespace Go.Proofs.YtokhibfenccijaaGreatDoor
open Go.RowKit Go.Maps
theorem infoOp : (Tryz.prog.info? 72).map (fun i => (i.zero, i.size, i.bytes)) = some (some (.agg #[.int .i64 0, .int .i64 0]), 2, 16) := by kernel_rfl
theorem two_new (w : World) (a b : Int) (t : TypeId) (n : Nat) (hn : w.heap.size = n) : ∀ j u, [Value.int .i64 a, Value.int .i64 b][j]? = some u → (w.alloc (.cells #[.int .i64 a, .int .i64 b] t)).cell? ((⟨n, 0, none⟩ : Addr).add j) = some u := by
  subst hn
  intro j u hj
  match j, hj with
  | 0, hj => simp at hj; subst hj; exact cell_lays (lays_new rfl) 0
  | 1, hj => simp at hj; subst hj; exact cell_lays (lays_new rfl) 1
  | j + 2, hj => simp at hj
theorem two_int (a b : Int) : ∀ u, u ∈ [Value.int .i64 a, Value.int .i64 b] → u.oneCell' = true := by
  intro u hu
  simp only [List.mem_cons, List.not_mem_nil, or_false] at hu
  rcases hu with rfl | rfl <;> rfl
theorem trow_block {w : World} {base : Nat} {e : TypeId} {size : Nat} {v : Value} {n : Nat} {xs : List Value} (h : w.ownsRow base e size v n xs) : ∀ r, v.ownBlock = some r → base ≤ r := by
  intro r hr
  obtain ⟨_, h0 | ⟨g, cap, cur, hv, hb, _⟩⟩ := h
  · rw [h0.1] at hr; cases hr
  · rw [hv] at hr; cases hr; exact hb
theorem flatOps_snoc (c : List (Int × Int)) (x : Int × Int) : flatOps (c ++ [x]) = flatOps c ++ [.int .i64 x.1, .int .i64 x.2] := by simp [flatOps]
def CodeNew (N : Nat) (w : World) (v : Value) (c : List (Int × Int)) : Prop :=
  ∃ oa cap, v = .slice oa c.length cap ∧ c.length ≤ 8796093022208 ∧ ∀ i x, c[i]? = some x → ∃ b o, oa = some ⟨b, o, none⟩ ∧ N ≤ b ∧
    w.cell? ⟨b, o + i * 2, none⟩ = some (.int .i64 x.1) ∧ w.cell? ⟨b, o + i * 2 + 1, none⟩ = some (.int .i64 x.2)
theorem CodeNew.code {N : Nat} {w : World} {v : Value} {c : List (Int × Int)} (h : CodeNew N w v c) : CodeAt w v c := by
  obtain ⟨oa, cap, e, hl, hi⟩ := h
  refine ⟨oa, cap, e, hl, fun i x hx => ?_⟩
  obtain ⟨b, o, e1, _, h1, h2⟩ := hi i x hx
  exact ⟨b, o, e1, h1, h2⟩
theorem CodeNew.kept {N : Nat} {w w' : World} {v : Value} {c : List (Int × Int)} (h : CodeNew N w v c) (k : Kept w w') : CodeNew N w' v c := by
  obtain ⟨oa, cap, e, hl, hi⟩ := h
  refine ⟨oa, cap, e, hl, fun i x hx => ?_⟩
  obtain ⟨b, o, e1, hb, h1, h2⟩ := hi i x hx
  exact ⟨b, o, e1, hb, k.cell h1, k.cell h2⟩
theorem CodeNew.keptX {N B : Nat} {w w' : World} {v : Value} {c : List (Int × Int)} (h : CodeNew N w v c) (hB : B < N) (k : KeptX B w w') : CodeNew N w' v c := by
  obtain ⟨oa, cap, e, hl, hi⟩ := h
  refine ⟨oa, cap, e, hl, fun i x hx => ?_⟩
  obtain ⟨b, o, e1, hb, h1, h2⟩ := hi i x hx
  exact ⟨b, o, e1, hb, k.cell (by simp; omega) h1, k.cell (by simp; omega) h2⟩
theorem CodeNew.mono {N N' : Nat} {w : World} {v : Value} {c : List (Int × Int)} (h : CodeNew N w v c) (hn : N' ≤ N) : CodeNew N' w v c := by
  obtain ⟨oa, cap, e, hl, hi⟩ := h
  refine ⟨oa, cap, e, hl, fun i x hx => ?_⟩
  obtain ⟨b, o, e1, hb, h1⟩ := hi i x hx
  exact ⟨b, o, e1, by omega, h1⟩
theorem codeAt_row {w : World} {base : Nat} {v : Value} {n : Nat} {c : List (Int × Int)} (h : w.ownsRow base 72 2 v n (flatOps c)) (hn : n = c.length) (hl : c.length ≤ 8796093022208) : CodeNew base w v c := by
  subst hn
  obtain ⟨hlen, ⟨rfl, h0⟩ | ⟨g, cap, cur, rfl, hb, hh, _, _, hs, ht⟩⟩ := h
  · have : c = [] := List.length_eq_zero_iff.1 h0
    subst this
    exact ⟨none, 0, rfl, by simp, fun i x hx => by simp at hx⟩
  · refine ⟨_, cap, rfl, hl, fun i x hx => ⟨g, 0, rfl, hb, ?_, ?_⟩⟩
    all_goals
      have hi := (List.getElem?_eq_some_iff.1 hx).1
      obtain ⟨f1, f2⟩ := flatOps_at c i x hx
      rw [← ht, List.getElem?_take, if_pos (by omega)] at f1 f2
      rw [cell_lays hh]
    · simpa using f1
    · simpa using f2
theorem made_size (m : Nat) : (madeCells #[.int .i64 0, .int .i64 0] (m * 2)).size = m * 2 := by simp [madeCells]
theorem make_ops (m : Nat) (hm : m ≤ 1000000) (u : World) : (Instr.makeSlice 67 (.int .i64 0) (.int .i64 m)).run Tryz.prog u =
    .ok (.slice (some ⟨u.heap.size, 0, none⟩) 0 m) (u.alloc (.cells (madeCells #[.int .i64 0, .int .i64 0] (m * 2)) 72)) := by
  obtain ⟨i0, hi, hz0, hz1, hz2⟩ := info_parts infoOp
  have h := run_make (P := Tryz.prog) u 67 72 i0 (.agg #[.int .i64 0, .int .i64 0]) Tryz.underlying67 hi hz0 .i64 .i64 (0 : Int) (m : Int) (by omega) (by omega) (by rw [hz2]; omega) (by omega)
  rw [Int.toNat_natCast] at h
  simpa [hz1, Value.cells] using h
def TrimPost (ar lo : Int) (c : List (Int × Int)) (w : World) (e : Ending) (w' : World) : Prop :=
  ∃ cv, e = .returned (.agg #[.int .i64 ar, .int .i64 lo, cv]) ∧ CodeNew w.heap.size w' cv c ∧ Kept w w'
def JumpsIn (H : List Int) (c : List (Int × Int)) : Prop :=
  ∀ k x, c[k]? = some x → 0 ≤ H.getD k 0 → x.1 = 9 ∨ x.1 = 10 → ∃ t : Nat, x.2 = (t : Int) ∧ t < c.length ∧ 0 ≤ H.getD t 0
theorem trimmed_go (H : List Int) (c : List (Int × Int)) (ar lo : Int) (bc oc m cc bh oh ch : Nat) (w : World) (hc : CodeAt w (.slice (some ⟨bc, oc, none⟩) m cc) c) (hh : IntsAt w (.slice (some ⟨bh, oh, none⟩) m ch) H) (hml : m = c.length) (hmh : m = H.length) (hm24 : m ≤ 24) (hj : JumpsIn H c) :
    Calls Tryz.prog 198 #[.agg #[.int .i64 ar, .int .i64 lo, .slice (some ⟨bc, oc, none⟩) m cc], .slice (some ⟨bh, oh, none⟩) m ch] w fun e w' => TrimPost ar lo (trimC H c) w e w' := by
  have hcell : ∀ k x, c[k]? = some x → w.cell? ⟨bc, oc + k * 2, none⟩ = some (.int .i64 x.1) ∧ w.cell? ⟨bc, oc + k * 2 + 1, none⟩ = some (.int .i64 x.2) := by
    intro k x hx
    obtain ⟨oa, cap, he, _, hi⟩ := id hc
    obtain ⟨b, o, rfl, x0, x1⟩ := hi k x hx
    obtain ⟨⟨rfl, rfl⟩, -, -⟩ := (by simpa using he : (bc = b ∧ oc = o) ∧ m = c.length ∧ cc = cap)
    exact ⟨x0, x1⟩
  have hhc : ∀ j, j < m → w.cell? ⟨bh, oh + j, none⟩ = some (.int .i64 (H.getD j 0)) := by
    intro j hj
    obtain ⟨oa, cap, he, _, hi⟩ := id hh
    obtain ⟨b, o, rfl, x0⟩ := hi j _ (getD_of_lt H j 0 (by omega))
    obtain ⟨⟨rfl, rfl⟩, -, -⟩ := (by simpa using he : (bh = b ∧ oh = o) ∧ m = H.length ∧ ch = cap)
    exact x0
  have hpl : Maps.size (placesD H H.length) ≤ 24 := by rw [placesD_size]; have := placeS_le H H.length; omega
  have hmk := make_ops (Maps.size (placesD H H.length)) (by omega)
  obtain ⟨i0, hi0, hz0, hz1, hz2⟩ := info_parts infoOp
  have HCELL := hide hcell
  have HHC := hide hhc
  have HML := hide hml
  have HMH := hide hmh
  have HJ := hide hj
  clear hc hh hml hmh hj hcell hhc
  go_enter Tryz.func198, Tryz.ntmps198
  go_wp2_with fail
  refine (places_any H bh oh m ch _ (unhide HMH) hm24 (fun j hj => (((Kept.refl w).alloc _).alloc _).cell ((unhide HHC) j hj))).mono ?_
  rintro e w1 ⟨rfl, hmap, hk1⟩
  have hb0 := lays_kept hk1 (lays_alloc (lays_new (b := w.heap.size) (o := .cells #[.int .i64 ar, .int .i64 lo, .slice (some ⟨bc, oc, none⟩) m cc] 69) rfl) (.cells #[.int .i64 0, .int .i64 0, .slice none 0 0] 69))
  have hb1 := lays_kept hk1 (lays_new (b := w.heap.size + 1) (w := w.alloc (.cells #[.int .i64 ar, .int .i64 lo, .slice (some ⟨bc, oc, none⟩) m cc] 69)) (o := .cells #[.int .i64 0, .int .i64 0, .slice none 0 0] 69) (by simp))
  have hk01 : Kept w w1 := (((Kept.refl w).alloc _).alloc _).trans hk1
  generalize hB : ((w.alloc (Obj.cells #[Value.int IntKind.i64 ar, Value.int IntKind.i64 lo, Value.slice (some { block := bc, off := oc }) m cc] 69)).alloc (Obj.cells #[Value.int IntKind.i64 0, Value.int IntKind.i64 0, Value.slice none 0 0] 69)).heap.size = B at hmap ⊢
  have hown : w1.ownsMap Tryz.prog 3 (plainElem (H := Unit) Tryz.prog 3) B H.length (placesD H H.length) := hmap
  have g2 := cell_lays hb0 2
  simp only [List.getElem?_toArray, List.getElem?_cons_zero, List.getElem?_cons_succ] at g2
  have g2' : ∀ o1, (w1.alloc o1).cell? ⟨w.heap.size, 2, none⟩ = _ := fun o1 => ((Kept.refl w1).alloc o1).cell g2
  have HB0 := hide hb0
  have HB1 := hide hb1
  have HK01 := hide hk01
  have HMAP := hide hmap
  clear hb0 hb1 hk01 hmap hk1 hB
  go_wp2_with (first
    | (at_len; refine wpList_len_own _ rfl _ 239 rfl 3 3 Tryz.underlying239 _ B H.length _ rfl hown ?_)
    | go_in)
  have hr0 : (w1.alloc (Obj.cells (madeCells #[.int .i64 0, .int .i64 0] (Maps.size (placesD H H.length) * 2)) 72)).ownsRow w1.heap.size 72 2 (.slice (some ⟨w1.heap.size, 0, none⟩) 0 (Maps.size (placesD H H.length))) 0 (flatOps []) := World.ownsRow_made w1 _ _ (Nat.le_refl _) (by unfold maxLen; omega) (made_size _)
  have HR0 := hide hr0
  clear hr0
  go_loopw [6, 19] (fun s6 s19 wr => ∃ k : Nat, k ≤ m ∧ s19 = .int .i64 k ∧ Hid (wr.ownsRow w1.heap.size 72 2 s6 (placeS H k) (flatOps (pick H (fun k => moveS H (c.getD k (0, 0))) k))) ∧ Hid (Kept w1 wr)) (fun _ s19 _ => m - (intOf s19).toNat)
  case atStart => exact ⟨0, Nat.zero_le _, rfl, HR0, (Kept.refl _).alloc _⟩
  case round =>
    obtain ⟨k, hkm, rfl, HOW, HKr⟩ := hrel
    clear g2 g2' HR0 hmk
    by_cases hlt : k < m
    · obtain ⟨⟨kd, a⟩, hx⟩ : ∃ x, c[k]? = some x := ⟨_, List.getElem?_eq_getElem (by rw [← unhide HML]; exact hlt)⟩
      obtain ⟨x0, x1⟩ := (unhide HCELL) k _ hx
      have y0 := ((unhide HK01).trans (unhide HKr)).cell x0
      have y1 := ((unhide HK01).trans (unhide HKr)).cell x1
      simp only at y0 y1
      have hma : MapAt (wr.alloc (.cells #[.int .i64 kd, .int .i64 a] 72)) B H := (unhide HMAP).kept ((unhide HKr).alloc _)
      obtain ⟨vk, psk, hlook, _⟩ := World.ownsMap.look_ok (t := 239) (e := 3) hma lawInt Tryz.underlying239 (zeroInt _) (plainElem_int Tryz.underlying3 (by decide)) (key := .int .i64 k) (keyOf_int_mk Tryz.underlying3 (WalkArith.wf_i64 (by omega)))
      rw [placesD_has] at hlook
      have hcd : c.getD k (0, 0) = (kd, a) := by simp [List.getD, hx]
      by_cases hs : 0 ≤ H.getD k 0
      · rw [decide_eq_true (⟨by have := unhide HMH; omega, hs⟩ : k < H.length ∧ 0 ≤ H.getD k 0)] at hlook
        have hp1 : placeS H (k + 1) = placeS H k + 1 := placeS_succ hs
        have hp2 : pick H (fun k => moveS H (c.getD k (0, 0))) (k + 1) = pick H (fun k => moveS H (c.getD k (0, 0))) k ++ [moveS H (kd, a)] := by
          conv => lhs; unfold pick
          rw [if_pos hs, hcd]
        have hple := placeS_le H k
        have HP1 := hide hp1
        by_cases hjz : kd = 9 ∨ kd = 10
        · obtain ⟨t, ht, htm, hts⟩ := (unhide HJ) k _ hx hs hjz
          simp only at ht
          subst ht
          obtain ⟨c2, hlook2, hat2, _⟩ := World.ownsMap.lookup_int (t := 239) (e := 3) (q := .i64) hma lawInt Tryz.underlying239 Tryz.underlying3 (zeroInt _) (key := .int .i64 t) (keyOf_int_mk Tryz.underlying3 (WalkArith.wf_i64 (by have := unhide HML; omega)))
          rw [placesD_at H t hts _ H.length (by have := unhide HML; have := unhide HMH; omega)] at hat2
          obtain rfl : c2 = (placeS H t : Nat) := by simpa using hat2.symm
          have hmv : moveS H (kd, (t : Int)) = (kd, ((placeS H t : Nat) : Int)) := by unfold moveS; rw [if_pos hjz]; simp
          rw [hmv, ] at hp2
          have hfl := congrArg flatOps hp2
          rw [flatOps_snoc] at hfl
          have HFL := hide hfl
          have hown6 := (unhide HOW)
          clear hp1 hp2 hfl hat2 hma hcd hx x0 x1 hmv hts hs
          generalize placeS H t = pt at *
          rcases hjz with rfl | rfl
          all_goals go_wp2_with (at_builtin; refine wpList_append_own _ rfl _ _ 67 rfl w1.heap.size 72 i0 (.agg #[.int .i64 0, .int .i64 0]) 2 16 Tryz.underlying67 hi0 hz0 hz1 hz2 rfl (by decide) _ _ _ rfl ((hown6.alloc _).alloc _) ⟨wr.heap.size + 1, 0, none⟩ 1 1 [.int .i64 _, .int .i64 (pt : Int)] rfl rfl (two_new _ _ _ _ _ (by simp)) (two_int _ _) (by unfold maxLen; omega) (by omega) (by have := (unhide HKr).size; simp; omega) ?_; intro v' w2 hown' hgrow _)
          all_goals have HK2 := hide (Below.grown (((unhide HKr).alloc _).alloc _) hgrow (by have := (unhide HKr).size; simp; omega) (trow_block hown6))
          all_goals have HO2 := hide hown'
          all_goals clear hgrow hown' hown6 hlook hlook2
          all_goals go_roundw
          case rel => exact ⟨k + 1, by omega, by go_num, by rw [unhide HP1, unhide HFL]; exact HO2, HK2⟩
          case measure => simp [intOf]; omega
          case rel => exact ⟨k + 1, by omega, by go_num, by rw [unhide HP1, unhide HFL]; exact HO2, HK2⟩
          case measure => simp [intOf]; omega
        · have h9 : (kd == 9) = false := by rw [beq_eq_false_iff_ne]; intro e; exact hjz (.inl e)
          have h10 : (kd == 10) = false := by rw [beq_eq_false_iff_ne]; intro e; exact hjz (.inr e)
          have hmv : moveS H (kd, a) = (kd, a) := by unfold moveS; rw [if_neg hjz]
          rw [hmv] at hp2
          have hfl := congrArg flatOps hp2
          rw [flatOps_snoc] at hfl
          have HFL := hide hfl
          have hown6 := (unhide HOW)
          clear hp1 hp2 hfl hma hcd hx x0 x1 hmv hs hjz
          go_wp2_with (at_builtin; refine wpList_append_own _ rfl _ _ 67 rfl w1.heap.size 72 i0 (.agg #[.int .i64 0, .int .i64 0]) 2 16 Tryz.underlying67 hi0 hz0 hz1 hz2 rfl (by decide) _ _ _ rfl ((hown6.alloc _).alloc _) ⟨wr.heap.size + 1, 0, none⟩ 1 1 [.int .i64 kd, .int .i64 a] rfl rfl (two_new _ _ _ _ _ (by simp)) (two_int _ _) (by unfold maxLen; omega) (by omega) (by have := (unhide HKr).size; simp; omega) ?_; intro v' w2 hown' hgrow _)
          have HK2 := hide (Below.grown (((unhide HKr).alloc _).alloc _) hgrow (by have := (unhide HKr).size; simp; omega) (trow_block hown6))
          have HO2 := hide hown'
          clear hgrow hown' hown6 hlook
          go_roundw
          case rel => exact ⟨k + 1, by omega, by go_num, by rw [unhide HP1, unhide HFL]; exact HO2, HK2⟩
          case measure => simp [intOf]; omega
      · rw [decide_eq_false (fun h => hs h.2)] at hlook
        have hp1 : placeS H (k + 1) = placeS H k := by
          conv => lhs; unfold placeS
          rw [if_neg hs]
        have hp2 : pick H (fun k => moveS H (c.getD k (0, 0))) (k + 1) = pick H (fun k => moveS H (c.getD k (0, 0))) k := by
          conv => lhs; unfold pick
          rw [if_neg hs]
        have HP1 := hide hp1
        have HP2 := hide hp2
        have HO2 := hide ((unhide HOW).alloc (.cells #[.int .i64 kd, .int .i64 a] 72))
        have HK2 := hide ((unhide HKr).alloc (.cells #[.int .i64 kd, .int .i64 a] 72))
        clear hp1 hp2 hma hcd hx x0 x1 hs
        go_wp2
        go_roundw
        case rel => exact ⟨k + 1, by omega, by go_num, by rw [unhide HP1, unhide HP2]; exact HO2, HK2⟩
        case measure => simp [intOf]; omega
    · have hke : k = H.length := by have := unhide HMH; omega
      have hO := unhide HOW
      rw [hke] at hO
      have hlw : w.heap.size + 1 < w1.heap.size := (Array.getElem?_eq_some_iff.1 (unhide HB1)).1
      have hcode : ∀ u0 u1 u2, CodeNew w1.heap.size (((wr.setCell ⟨w.heap.size + 1, 0, none⟩ u0).setCell ⟨w.heap.size + 1, 1, none⟩ u1).setCell ⟨w.heap.size + 1, 2, none⟩ u2) _ (trimC H c) := fun u0 u1 u2 =>
        codeAt_row (c := trimC H c) (ownsRow_setCell_below (ownsRow_setCell_below (ownsRow_setCell_below hO hlw u0) hlw u1) hlw u2) (trimC_len H c).symm (by rw [trimC_len]; have := placeS_le H H.length; have := unhide HMH; omega)
      have hr0 := lays_kept (unhide HKr) (unhide HB0)
      have hr1 := lays_kept (unhide HKr) (unhide HB1)
      have f0 := cell_lays hr0 0
      have f1 := cell_lays hr0 1
      have e0 := cell_lays hr1 0
      have e1 := cell_lays hr1 1
      have e2 := cell_lays hr1 2
      have z0 := frozen_lays hr1 0
      have z1 := frozen_lays hr1 1
      have z2 := frozen_lays hr1 2
      simp only [List.getElem?_toArray, List.getElem?_cons_zero, List.getElem?_cons_succ] at f0 f1 e0 e1 e2
      obtain ⟨oa6, cp6, he6, _, _⟩ := hcode undef undef undef
      subst he6
      have HCO := hide hcode
      have HR1 := hide hr1
      clear hke hO hcode hr0 hr1
      go_wp2
      have hl3 := lays_set (lays_set (lays_set (unhide HR1) 0 (.int .i64 ar)) 1 (.int .i64 lo)) 2 (.slice oa6 (trimC H c).length cp6)
      have k0 := cell_lays hl3 0
      have k1 := cell_lays hl3 1
      have k2 := cell_lays hl3 2
      simp only [Array.setIfInBounds, List.size_toArray, List.length_cons, List.length_nil] at k0 k1 k2
      refine bodyPost_ret (v := .agg #[.int .i64 ar, .int .i64 lo, .slice oa6 (trimC H c).length cp6]) (by simp [results, Tryz.results198, go_sem, k0, k1, k2]) rfl ?_
      exact ⟨_, rfl, ((unhide HCO) _ _ _).mono (unhide HK01).size, ((((unhide HK01).trans (unhide HKr)).setCell (p := ⟨w.heap.size + 1, 0, none⟩) (Nat.le_succ _) _).setCell (p := ⟨w.heap.size + 1, 1, none⟩) (Nat.le_succ _) _).setCell (p := ⟨w.heap.size + 1, 2, none⟩) (Nat.le_succ _) _⟩
open Go.RowKit
def tfS (p : List Fn) (f : Int) : Fn × Int := if (hgtS p f).2 = 0 then (trimF p f.toNat, 0) else (Fn.zero, (hgtS p f).2)
def TfPost (g : Fn) (er : Int) (w : World) (e : Ending) (w' : World) : Prop :=
  ∃ cv, e = .returned (.tuple #[.agg #[.int .i64 g.args, .int .i64 g.locals, cv], .int .i64 er]) ∧ CodeNew w.heap.size w' cv g.code ∧ Kept w w'
theorem CodeNew.nil (N : Nat) (w : World) : CodeNew N w (.slice none 0 0) [] := ⟨none, 0, rfl, by simp, fun i x h => by simp at h⟩
theorem jumpsIn_of {p : List Fn} {g : Fn} {H : List Int} (hc : Cons p g.code H) (hr : ∀ x, x ∈ g.code → opS p g x = 0) : JumpsIn H g.code := by
  intro k x hx hs hj
  have hk : k < g.code.length := (List.getElem?_eq_some_iff.1 hx).1
  obtain ⟨_, _, hm⟩ := opS_kind (hr x (List.mem_of_getElem? hx))
  have ho : opd x.1.toNat = 3 := by rcases hj with e | e <;> rw [e] <;> rfl
  rw [ho] at hm
  have hx2 := ixB_iff.1 (show ixB x.2 g.code.length = true from hm)
  have hin : x.2.toNat ∈ nexts x k := by
    unfold nexts
    rcases hj with e | e
    · rw [if_neg (by omega), if_pos e]; simp
    · rw [if_neg (by omega), if_neg (by omega), if_pos e]; simp
  obtain ⟨s1, s2⟩ := next_stays hc ⟨g, rfl, hr⟩ hk hs hx hin
  exact ⟨x.2.toNat, by omega, s1, s2⟩
theorem trimFunc_bad (p : List Fn) (v : Value) (f : Int) (w : World) (hp : ProgAt w v p) (hk : KindsAt w) (hz : (hgtS p f).2 ≠ 0) :
    Calls Tryz.prog 181 #[v, .int .i64 f] w fun e w' => TfPost Fn.zero (hgtS p f).2 w e w' := by
  obtain ⟨oa, cap, rfl, _, _⟩ := id hp
  have hz' : ((hgtS p f).2 != 0) = true := by rw [bne_iff_ne]; exact hz
  have hha := heights_any p _ f (w.alloc (.cells #[.int .i64 0, .int .i64 0, .slice none 0 0] 69)) (hp.kept ((Kept.refl w).alloc _)) (hk.kept ((Kept.refl w).alloc _))
  unfold HgtPost at hha
  generalize (hgtS p f).2 = r at *
  generalize (hgtS p f).1 = l at *
  have HHA := hide hha
  clear hp hk hz hha
  go_enter Tryz.func181, Tryz.ntmps181
  go_wp2_with fail
  refine (unhide HHA).mono ?_
  rintro e w1 ⟨u1, rfl, _, hk1⟩
  have l1 := lays_kept hk1 (lays_new (b := w.heap.size) (o := .cells #[.int .i64 0, .int .i64 0, .slice none 0 0] 69) rfl)
  have e0 := cell_lays l1 0
  have e1 := cell_lays l1 1
  have e2 := cell_lays l1 2
  have z0 := frozen_lays l1 0
  have z1 := frozen_lays l1 1
  have z2 := frozen_lays l1 2
  simp only [List.getElem?_toArray, List.getElem?_cons_zero, List.getElem?_cons_succ] at e0 e1 e2
  have H1 := hide (((Kept.refl w).alloc _).trans hk1)
  have L1 := hide l1
  clear hk1 HHA l1
  go_wp2
  have hl3 := lays_set (lays_set (lays_set (unhide L1) 0 (.int .i64 0)) 1 (.int .i64 0)) 2 (.slice none 0 0)
  have k0 := cell_lays hl3 0
  have k1 := cell_lays hl3 1
  have k2 := cell_lays hl3 2
  simp only [Array.setIfInBounds, List.size_toArray, List.length_cons, List.length_nil] at k0 k1 k2
  refine bodyPost_ret (v := .tuple #[.agg #[.int .i64 0, .int .i64 0, .slice none 0 0], .int .i64 r]) (by simp [results, Tryz.results181, go_sem, k0, k1, k2]) rfl ?_
  exact ⟨.slice none 0 0, rfl, CodeNew.nil _ _, (((unhide H1).setCell (p := ⟨w.heap.size, 0, none⟩) (Nat.le_refl _) _).setCell (p := ⟨w.heap.size, 1, none⟩) (Nat.le_refl _) _).setCell (p := ⟨w.heap.size, 2, none⟩) (Nat.le_refl _) _⟩
theorem trimFunc_go (p : List Fn) (i b o n cap oc m cc bc : Nat) (H : List Int) (g : Fn) (w : World) (hp : ProgAt w (.slice (some ⟨b, o, none⟩) n cap) p) (hk : KindsAt w) (hi : i < n)
    (c0 : w.cell? ⟨b, o + i * 3, none⟩ = some (.int .i64 g.args)) (c1 : w.cell? ⟨b, o + i * 3 + 1, none⟩ = some (.int .i64 g.locals)) (c2 : w.cell? ⟨b, o + i * 3 + 2, none⟩ = some (.slice (some ⟨bc, oc, none⟩) m cc))
    (hc : CodeAt w (.slice (some ⟨bc, oc, none⟩) m cc) g.code) (hml : m = g.code.length) (hm24 : m ≤ 24) (hm0 : 0 < m) (hH : hgtS p i = (H, 0)) (hHl : m = H.length) (hj : JumpsIn H g.code) :
    Calls Tryz.prog 181 #[.slice (some ⟨b, o, none⟩) n cap, .int .i64 i] w fun e w' => TfPost ⟨g.args, g.locals, trimC H g.code⟩ 0 w e w' := by
  have hha := heights_any p _ i (w.alloc (.cells #[.int .i64 0, .int .i64 0, .slice none 0 0] 69)) (hp.kept ((Kept.refl w).alloc _)) (hk.kept ((Kept.refl w).alloc _))
  unfold HgtPost at hha
  rw [hH] at hha
  have HHA := hide hha
  have C0 := hide c0
  have C1 := hide c1
  have C2 := hide c2
  have HC := hide hc
  have HML := hide hml
  have HHL := hide hHl
  have HJ := hide hj
  clear hp hk c0 c1 c2 hc hml hH hHl hj hha
  go_enter Tryz.func181, Tryz.ntmps181
  go_wp2_with fail
  refine (unhide HHA).mono ?_
  rintro e w1 ⟨u1, rfl, hu1, hk1⟩
  obtain ⟨bh, oh, ch, rfl, _⟩ := hu1.opened (by have := unhide HHL; omega)
  rw [← unhide HHL] at hu1 ⊢
  have l1 := lays_kept hk1 (lays_new (b := w.heap.size) (o := .cells #[.int .i64 0, .int .i64 0, .slice none 0 0] 69) rfl)
  have hk01 := ((Kept.refl w).alloc _).trans hk1
  have d0 := hk01.cell (unhide C0)
  have d1 := hk01.cell (unhide C1)
  have d2 := hk01.cell (unhide C2)
  have htr := trimmed_go H g.code g.args g.locals bc oc m cc bh oh ch w1 ((unhide HC).kept hk01) hu1 (unhide HML) (unhide HHL) hm24 (unhide HJ)
  have HTR := hide htr
  have H1 := hide hk01
  have L1 := hide l1
  clear hk1 HHA l1 htr hu1 hk01
  go_wp2_with fail
  refine (unhide HTR).mono ?_
  rintro e w2 ⟨cv, rfl, hcv, hk2⟩
  have l2 := lays_kept hk2 (unhide L1)
  have e0 := cell_lays l2 0
  have e1 := cell_lays l2 1
  have e2 := cell_lays l2 2
  have z0 := frozen_lays l2 0
  have z1 := frozen_lays l2 1
  have z2 := frozen_lays l2 2
  simp only [List.getElem?_toArray, List.getElem?_cons_zero, List.getElem?_cons_succ] at e0 e1 e2
  have H2 := hide ((unhide H1).trans hk2)
  have L2 := hide l2
  have hsz : w.heap.size < w1.heap.size := (Array.getElem?_eq_some_iff.1 (unhide L1)).1
  obtain ⟨oa6, cp6, he6, _, _⟩ := id hcv
  subst he6
  have HCV := hide hcv
  clear hk2 HTR l2 hcv
  go_wp2
  have hl3 := lays_set (lays_set (lays_set (unhide L2) 0 (.int .i64 g.args)) 1 (.int .i64 g.locals)) 2 (.slice oa6 (trimC H g.code).length cp6)
  have k0 := cell_lays hl3 0
  have k1 := cell_lays hl3 1
  have k2 := cell_lays hl3 2
  simp only [Array.setIfInBounds, List.size_toArray, List.length_cons, List.length_nil] at k0 k1 k2
  refine bodyPost_ret (v := .tuple #[.agg #[.int .i64 g.args, .int .i64 g.locals, .slice oa6 (trimC H g.code).length cp6], .int .i64 0]) (by simp [results, Tryz.results181, go_sem, k0, k1, k2]) rfl ?_
  refine ⟨_, rfl, ?_, (((unhide H2).setCell (p := ⟨w.heap.size, 0, none⟩) (Nat.le_refl _) _).setCell (p := ⟨w.heap.size, 1, none⟩) (Nat.le_refl _) _).setCell (p := ⟨w.heap.size, 2, none⟩) (Nat.le_refl _) _⟩
  refine CodeNew.mono (N := w1.heap.size) ((unhide HCV).keptX hsz ?_) (Nat.le_of_lt hsz)
  exact (((KeptX.refl w.heap.size _).setCell (p := ⟨w.heap.size, 0, none⟩) (.inl rfl) _).setCell (p := ⟨w.heap.size, 1, none⟩) (.inl rfl) _).setCell (p := ⟨w.heap.size, 2, none⟩) (.inl rfl) _
theorem hgtS_right {p : List Fn} {f : Int} (h : (hgtS p f).2 = 0) : ∃ i : Nat, f = i ∧ chkS p i = 0 ∧ heightsS p (codeOf p i) = some (hgtL p i) ∧ hgtS p f = (hgtL p i, 0) := by
  unfold hgtS at h ⊢
  split at h
  · rename_i hz
    obtain ⟨i, rfl, _⟩ := chkS_zero hz
    rw [if_pos hz] at *
    rw [Int.toNat_natCast] at *
    refine ⟨i, rfl, hz, ?_⟩
    unfold hgtL codeOf
    cases hh : heightsS p (p.getD i Fn.zero).code with
    | none => rw [hh] at h; cases h
    | some H => exact ⟨rfl, rfl⟩
  · rename_i hz; exact absurd h hz
theorem trimFunc_any (p : List Fn) (v : Value) (f : Int) (w : World) (hp : ProgAt w v p) (hk : KindsAt w) :
    Calls Tryz.prog 181 #[v, .int .i64 f] w fun e w' => TfPost (tfS p f).1 (tfS p f).2 w e w' := by
  by_cases hz : (hgtS p f).2 = 0
  · obtain ⟨i, rfl, hck, hh, hg⟩ := hgtS_right hz
    have ht : tfS p i = (trimF p i, 0) := by unfold tfS; rw [if_pos hz, Int.toNat_natCast]
    rw [ht]
    obtain ⟨i', hi0, hi, hm, hr, hops⟩ := chkS_zero hck
    obtain rfl : i = i' := by omega
    have hR : Right p (codeOf p i) := ⟨p.getD i Fn.zero, rfl, opsS_all hops⟩
    obtain ⟨hcons, _⟩ := heightsS_ok hR hh
    have hl : (hgtL p i).length = (p.getD i Fn.zero).code.length := hcons.len
    have hpos : 0 < (p.getD i Fn.zero).code.length := hcons.pos
    obtain ⟨oa, cap, rfl, _, hcell⟩ := id hp
    obtain ⟨b, o, cv, rfl, c0, c1, c2, hc⟩ := hcell i _ (getD_of_lt p i Fn.zero hi)
    obtain ⟨oc, cc, rfl, _, hcc⟩ := id hc
    obtain ⟨bc, oc', rfl, _, _⟩ := hcc 0 _ (getD_of_lt _ 0 (0, 0) hpos)
    exact trimFunc_go p i b o _ cap oc' _ cc bc (hgtL p i) _ w hp hk hi c0 c1 c2 hc rfl hm hpos hg hl.symm (jumpsIn_of hcons (opsS_all hops))
  · have ht : tfS p f = (Fn.zero, (hgtS p f).2) := by unfold tfS; rw [if_neg hz]
    rw [ht]
    exact trimFunc_bad p v f w hp hk hz
theorem infoFun : (Tryz.prog.info? 69).map (fun i => (i.zero, i.size, i.bytes)) = some (some (.agg #[.int .i64 0, .int .i64 0, .slice none 0 0]), 3, 40) := by kernel_rfl
theorem make_funcs (m : Nat) (hm : m ≤ 1000000) (u : World) : (Instr.makeSlice 27 (.int .i64 m) (.int .i64 m)).run Tryz.prog u =
    .ok (.slice (some ⟨u.heap.size, 0, none⟩) m m) (u.alloc (.cells (madeCells #[.int .i64 0, .int .i64 0, .slice none 0 0] (m * 3)) 69)) := by
  obtain ⟨i0, hi, hz0, hz1, hz2⟩ := info_parts infoFun
  have h := run_make (P := Tryz.prog) u 27 69 i0 (.agg #[.int .i64 0, .int .i64 0, .slice none 0 0]) Tryz.underlying27 hi hz0 .i64 .i64 (m : Int) (m : Int) (by omega) (by omega) (by rw [hz2]; omega) (by omega)
  rw [Int.toNat_natCast] at h
  simpa [hz1, Value.cells] using h
def FnsIn (N : Nat) (w : World) (B n : Nat) (q : Nat → Fn) (k : Nat) : Prop :=
  ∃ cur : Array Value, w.heap[B]? = some (.cells cur 69) ∧ cur.size = n * 3 ∧ ∀ j, j < k → ∃ cv, cur[j * 3]? = some (.int .i64 (q j).args) ∧ cur[j * 3 + 1]? = some (.int .i64 (q j).locals) ∧ cur[j * 3 + 2]? = some cv ∧ CodeNew N w cv (q j).code
theorem FnsIn.kept {N : Nat} {w w' : World} {B n k : Nat} {q : Nat → Fn} (h : FnsIn N w B n q k) (hk : Kept w w') : FnsIn N w' B n q k := by
  obtain ⟨cur, h1, h2, h3⟩ := h
  refine ⟨cur, lays_kept hk h1, h2, fun j hj => ?_⟩
  obtain ⟨cv, a, b, c, d⟩ := h3 j hj
  exact ⟨cv, a, b, c, d.kept hk⟩
theorem FnsIn.there {N : Nat} {w : World} {B n k : Nat} {q : Nat → Fn} (h : FnsIn N w B n q k) {j : Nat} (hj : j < n * 3) : (∃ u, w.cell? ⟨B, j, none⟩ = some u) ∧ w.frozen? ⟨B, j, none⟩ = false := by
  obtain ⟨cur, h1, h2, _⟩ := h
  refine ⟨⟨cur[j]'(by omega), ?_⟩, frozen_lays h1 j⟩
  rw [cell_lays h1]
  exact Array.getElem?_eq_getElem _
theorem FnsIn.step {N : Nat} {w : World} {B n k : Nat} {q : Nat → Fn} (h : FnsIn N w B n q k) (hk : k < n) (hB : B < N) {cv : Value} (hc : CodeNew N w cv (q k).code) :
    FnsIn N (((w.setCell ⟨B, k * 3, none⟩ (.int .i64 (q k).args)).setCell ⟨B, k * 3 + 1, none⟩ (.int .i64 (q k).locals)).setCell ⟨B, k * 3 + 2, none⟩ cv) B n q (k + 1) := by
  obtain ⟨cur, h1, h2, h3⟩ := h
  have hx : KeptX B w (((w.setCell ⟨B, k * 3, none⟩ (.int .i64 (q k).args)).setCell ⟨B, k * 3 + 1, none⟩ (.int .i64 (q k).locals)).setCell ⟨B, k * 3 + 2, none⟩ cv) :=
    (((KeptX.refl B w).setCell (p := ⟨B, k * 3, none⟩) (.inl rfl) _).setCell (p := ⟨B, k * 3 + 1, none⟩) (.inl rfl) _).setCell (p := ⟨B, k * 3 + 2, none⟩) (.inl rfl) _
  refine ⟨_, lays_set (lays_set (lays_set h1 _ _) _ _) _ _, by simp [h2], fun j hj => ?_⟩
  by_cases e : j = k
  · subst e
    refine ⟨cv, ?_, ?_, ?_, hc.keptX hB hx⟩
    · simp only [Array.getElem?_setIfInBounds, Array.size_setIfInBounds]
      rw [if_neg (by omega), if_neg (by omega), if_pos trivial, if_pos (by omega)]
    · simp only [Array.getElem?_setIfInBounds, Array.size_setIfInBounds]
      rw [if_neg (by omega), if_pos trivial, if_pos (by omega)]
    · simp only [Array.getElem?_setIfInBounds, Array.size_setIfInBounds]
      rw [if_pos trivial, if_pos (by omega)]
  · obtain ⟨cv', a, b, c, d⟩ := h3 j (by omega)
    refine ⟨cv', ?_, ?_, ?_, d.keptX hB hx⟩
    · simp only [Array.getElem?_setIfInBounds, Array.size_setIfInBounds]
      rw [if_neg (by omega), if_neg (by omega), if_neg (by omega)]; exact a
    · simp only [Array.getElem?_setIfInBounds, Array.size_setIfInBounds]
      rw [if_neg (by omega), if_neg (by omega), if_neg (by omega)]; exact b
    · simp only [Array.getElem?_setIfInBounds, Array.size_setIfInBounds]
      rw [if_neg (by omega), if_neg (by omega), if_neg (by omega)]; exact c
theorem FnsIn.prog {N : Nat} {w : World} {B n : Nat} {p q : List Fn} {cap : Nat} (h : FnsIn N w B n (trimF p) n) (hn : n = p.length) (hq : q = trimP p) (h8 : n ≤ 8796093022208) : ProgAt w (.slice (some ⟨B, 0, none⟩) n cap) q := by
  subst hq
  obtain ⟨cur, h1, h2, h3⟩ := h
  have hl : (trimP p).length = n := by simp [trimP, hn]
  refine ⟨_, cap, by rw [hl], by omega, fun j f hf => ?_⟩
  have hj : j < n := by rw [← hl]; exact (List.getElem?_eq_some_iff.1 hf).1
  obtain rfl : trimF p j = f := by
    have := trimP_get (p := p) (k := j) (by omega)
    simp only [List.getD, hf, Option.getD_some] at this
    exact this.symm
  obtain ⟨cv, a, b, c, d⟩ := h3 j hj
  refine ⟨B, 0, cv, rfl, ?_, ?_, ?_, d.code⟩
  · rw [cell_lays h1, Nat.zero_add]; exact a
  · rw [cell_lays h1, Nat.zero_add]; exact b
  · rw [cell_lays h1, Nat.zero_add]; exact c
def taS (p : List Fn) : List Fn := if progS p = 0 then trimP p else []
def TaPost (p : List Fn) (w : World) (e : Ending) (w' : World) : Prop :=
  ∃ v, e = .returned (.tuple #[v, .int .i64 (progS p)]) ∧ ProgAt w' v (taS p) ∧ Kept w w'
theorem tfS_right {p : List Fn} (h : progS p = 0) {k : Nat} (hk : k < p.length) : tfS p k = (trimF p k, 0) := by
  obtain ⟨_, _, hck⟩ := progS_right h
  have hz : (hgtS p k).2 = 0 := by
    rw [hgtS_E (hck k hk)]
    unfold hgtE
    rw [progS_heights h hk]
  unfold tfS
  rw [if_pos hz, Int.toNat_natCast]
theorem trimAll_bad (p : List Fn) (v : Value) (w : World) (hp : ProgAt w v p) (hk : KindsAt w) (hz : progS p ≠ 0) :
    Calls Tryz.prog 141 #[v] w fun e w' => TaPost p w e w' := by
  obtain ⟨oa, cap, rfl, _, _⟩ := id hp
  have hz' : (progS p != 0) = true := by rw [bne_iff_ne]; exact hz
  have ht : taS p = [] := by unfold taS; rw [if_neg hz]
  have hck := progCheck_any p _ w hp hk
  have HCK := hide hck
  unfold TaPost
  rw [ht]
  generalize progS p = r at *
  clear hp hk hz hck ht
  go_enter Tryz.func141, Tryz.ntmps141
  go_wp2_with fail
  refine (unhide HCK).mono ?_
  rintro e w1 ⟨rfl, hk1⟩
  have H1 := hide hk1
  clear hk1 HCK
  go_wp2
  go_ret2
  exact ⟨.slice none 0 0, rfl, nilProg _, unhide H1⟩
theorem trimAll_go (p : List Fn) (oa : Option Addr) (n cap : Nat) (w : World) (hn : n = p.length) (hp : ProgAt w (.slice oa n cap) p) (hk : KindsAt w) (hz : progS p = 0) :
    Calls Tryz.prog 141 #[.slice oa n cap] w fun e w' => TaPost p w e w' := by
  obtain ⟨hn5, hn0, _⟩ := progS_right hz
  have ht : taS p = trimP p := by unfold taS; rw [if_pos hz]
  have htf : ∀ k : Nat, k < n → tfS p k = (trimF p k, 0) := fun k hk => tfS_right hz (by omega)
  have hck := progCheck_is p _ 0 w hp hk hz
  have hmk := make_funcs n (by omega)
  unfold TaPost
  rw [ht, hz]
  have hn5n : n ≤ 5 := by omega
  have HCK := hide hck
  have HP := hide hp
  have HK := hide hk
  have HN := hide hn
  have HTF := hide htf
  clear hp hk hz hck hn ht htf hn0
  go_enter Tryz.func141, Tryz.ntmps141
  go_wp2_with fail
  refine (unhide HCK).mono ?_
  rintro e w1 ⟨rfl, hk1⟩
  have H1 := hide hk1
  have HF0 : Hid (FnsIn (w1.heap.size + 1) (w1.alloc (.cells (madeCells #[.int .i64 0, .int .i64 0, .slice none 0 0] (n * 3)) 69)) w1.heap.size n (trimF p) 0) :=
    ⟨_, lays_new rfl, size_madeCells _ _, fun j hj => by omega⟩
  clear hk1 HCK
  go_wp2
  go_loopw [17] (fun s wr => ∃ k : Nat, k ≤ n ∧ s = .int .i64 k ∧ Hid (FnsIn (w1.heap.size + 1) wr w1.heap.size n (trimF p) k) ∧ Hid (KeptX w1.heap.size w1 wr) ∧ w1.heap.size + 1 ≤ wr.heap.size) (fun s _ => n - (intOf s).toNat)
  case atStart => exact ⟨0, Nat.zero_le _, rfl, HF0, KeptX.of ((Kept.refl _).alloc _), by simp⟩
  case round =>
    obtain ⟨k, hkm, rfl, HF, HKr, hsz⟩ := hrel
    by_cases hlt : k < n
    · have hkr : Kept w wr := KeptX.kept (unhide H1) (unhide H1).size (unhide HKr)
      have hfc := trimFunc_any p (.slice oa n cap) k wr ((unhide HP).kept hkr) ((unhide HK).kept hkr)
      rw [(unhide HTF) k hlt] at hfc
      have HFC := hide hfc
      clear hfc hkr
      go_wp2_with fail
      refine (unhide HFC).mono ?_
      rintro e w2 ⟨cv, rfl, hcv, hk2⟩
      have hF2 := (unhide HF).kept hk2
      obtain ⟨⟨u0, e0⟩, z0⟩ := hF2.there (j := k * 3) (by omega)
      obtain ⟨⟨u1, e1⟩, z1⟩ := hF2.there (j := k * 3 + 1) (by omega)
      obtain ⟨⟨u2, e2⟩, z2⟩ := hF2.there (j := k * 3 + 2) (by omega)
      have hF3 := hF2.step hlt (Nat.lt_succ_self _) (hcv.mono hsz)
      obtain ⟨oa6, cp6, he6, _, _⟩ := id hcv
      subst he6
      have HF3 := hide hF3
      have hs2 := hk2.size
      have HK2 := hide ((unhide HKr).trans (.of hk2))
      clear HFC hF2 hF3 hcv hk2
      go_wp2
      go_roundw
      case rel => exact ⟨k + 1, by omega, by go_num, HF3, (((unhide HK2).setCell (p := ⟨w1.heap.size, k * 3, none⟩) (.inl rfl) _).setCell (p := ⟨w1.heap.size, k * 3 + 1, none⟩) (.inl rfl) _).setCell (p := ⟨w1.heap.size, k * 3 + 2, none⟩) (.inl rfl) _, by simp [World.setCell]; omega⟩
      case measure => simp [intOf]; omega
    · have hke : k = n := by omega
      have hf := unhide HF
      rw [hke] at hf
      have HFN := hide hf
      clear hke hf
      go_wp2
      go_ret2
      exact ⟨_, rfl, (unhide HFN).prog (unhide HN) rfl (by omega), KeptX.kept (unhide H1) (unhide H1).size (unhide HKr)⟩
theorem trimAll_any (p : List Fn) (v : Value) (w : World) (hp : ProgAt w v p) (hk : KindsAt w) :
    Calls Tryz.prog 141 #[v] w fun e w' => TaPost p w e w' := by
  by_cases hz : progS p = 0
  · obtain ⟨oa, cap, rfl, _, _⟩ := id hp
    exact trimAll_go p oa _ cap w rfl hp hk hz
  · exact trimAll_bad p v w hp hk hz
theorem begin_begun (p : List Fn) : beginS p = ⟨[⟨[begunS p 0 []], -1⟩], 0, []⟩ := by simp [beginS, begunS]
theorem begin_right {p : List Fn} (h : progS p = 0) : stErrS p (beginS p) = 0 := by
  obtain ⟨_, h0, _⟩ := progS_right h
  have hl : 0 ≤ (p.getD 0 Fn.zero).locals := by have := room_of h h0; omega
  obtain ⟨hf, hh⟩ := frame_begun h (f := 0) (by omega) (by omega) (vals := []) (by simpa using hl)
  refine good_right (l := [0]) ⟨h, by simp [beginS], by simp [beginS], fun k hk => ?_, ?_, by simp, .inr rfl, by simp [beginS], fun hn => absurd (by simp) hn, fun k hk => ?_⟩
  · obtain rfl : k = 0 := by simp [beginS] at hk; omega
    simp [fibAt, beginS]
  · simp [Path, beginS, callerOf]
  · obtain rfl : k = 0 := by simp [beginS] at hk; omega
    rw [begin_begun]
    simp [fibAt, fiberB, framesB, hf, hh]
    rfl
theorem begin_at {w : World} {b1 b2 b3 lo : Nat} (h1 : w.heap[b1]? = some (.cells (ints (List.replicate lo 0)).toArray 3)) (h2 : w.heap[b2]? = some (.cells #[.int .i64 0, .int .i64 0, .slice (some ⟨b1, 0, none⟩) lo lo, .slice none 0 0] 92))
    (h3 : w.heap[b3]? = some (.cells #[.slice (some ⟨b2, 0, none⟩) 1 1, .int .i64 (-1)] 95)) (hlo : lo ≤ 1000) :
    StAt w (.agg #[.slice (some ⟨b3, 0, none⟩) 1 1, .int .i64 0, .slice none 0 0]) ⟨[⟨[⟨0, 0, List.replicate lo 0, []⟩], -1⟩], 0, []⟩ := by
  refine ⟨_, _, rfl, ⟨some ⟨b3, 0, none⟩, 1, rfl, by simp, fun i b hb => ?_⟩, IntsW.nil _⟩
  have hi : i = 0 := by
    have := (List.getElem?_eq_some_iff.1 hb).1
    simpa using this
  subst hi
  simp at hb
  subst hb
  refine ⟨b3, 0, _, rfl, cell_at h3 rfl, cell_at h3 rfl, some ⟨b2, 0, none⟩, 1, rfl, ⟨by simp, by simp⟩, fun j f hf => ?_⟩
  have hj : j = 0 := by
    have := (List.getElem?_eq_some_iff.1 hf).1
    simpa using this
  subst hj
  simp at hf
  subst hf
  refine ⟨b2, 0, _, _, rfl, cell_at h2 rfl, cell_at h2 rfl, cell_at h2 rfl, cell_at h2 rfl, ⟨some ⟨b1, 0, none⟩, lo, by simp, by simp; omega, fun q z hz => ⟨b1, 0, rfl, ?_⟩⟩, IntsW.nil _⟩
  rw [Nat.zero_add]
  exact cell_at h1 (by rw [List.getElem?_toArray]; exact ints_get hz)
end Go.Proofs.YtokhibfenccijaaGreatDoor
