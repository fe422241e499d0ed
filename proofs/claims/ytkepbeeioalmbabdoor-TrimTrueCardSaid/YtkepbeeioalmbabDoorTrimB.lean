/-
  The contract of trim's trimmed: a function without the ops to which one never comes.
-/
import Derived.Test.YtkepbeeioalmbabDoorTrimA
import Derived.Test.YtkepbeeioalmbabDoorBlocks
import Derived.Test.YtkepbeeioalmbabDoorFlowC
import Derived.OwnWalk
import Derived.JoinedCond
namespace Go.Proofs.YtkepbeeioalmbabDoor
open Go.RowKit Go.Maps

theorem infoOp : (Tryd.prog.info? 38).map (fun i => (i.zero, i.size, i.bytes)) = some (some (.agg #[.int .i64 0, .int .i64 0]), 2, 16) := by kernel_rfl
theorem two_new (w : World) (a b : Int) (t : TypeId) (n : Nat) (hn : w.heap.size = n) : ∀ j u, [Value.int .i64 a, Value.int .i64 b][j]? = some u → (w.alloc (.cells #[.int .i64 a, .int .i64 b] t)).cell? ((⟨n, 0, none⟩ : Addr).add j) = some u := by
  subst hn
  intro j u hj
  match j, hj with
  | 0, hj => simp at hj; subst hj; exact cell_lays (lays_new rfl) 0
  | 1, hj => simp at hj; subst hj; exact cell_lays (lays_new rfl) 1
  | j + 2, hj => simp at hj
theorem two_int (a b : Int) : ∀ u, u ∈ [Value.int .i64 a, Value.int .i64 b] → u.oneCell' = true := by
  intro u hu
  simp only [List.mem_cons, List.not_mem_nil, or_false] at hu
  rcases hu with rfl | rfl <;> rfl
theorem trow_block {w : World} {base : Nat} {e : TypeId} {size : Nat} {v : Value} {n : Nat} {xs : List Value} (h : w.ownsRow base e size v n xs) : ∀ r, v.ownBlock = some r → base ≤ r := by
  intro r hr
  obtain ⟨_, h0 | ⟨g, cap, cur, hv, hb, _⟩⟩ := h
  · rw [h0.1] at hr; cases hr
  · rw [hv] at hr; cases hr; exact hb
theorem flatOps_len (c : List (Int × Int)) : (flatOps c).length = c.length * 2 := by
  induction c with
  | nil => rfl
  | cons x c ih => simp only [flatOps, List.flatMap_cons, List.length_append, List.length_cons, List.length_nil] at ih ⊢; omega
theorem flatOps_snoc (c : List (Int × Int)) (x : Int × Int) : flatOps (c ++ [x]) = flatOps c ++ [.int .i64 x.1, .int .i64 x.2] := by simp [flatOps]
/-- Ops in new blocks. -/
def CodeNew (N : Nat) (w : World) (v : Value) (c : List (Int × Int)) : Prop :=
  ∃ oa cap, v = .slice oa c.length cap ∧ c.length ≤ 8796093022208 ∧ ∀ i x, c[i]? = some x → ∃ b o, oa = some ⟨b, o, none⟩ ∧ N ≤ b ∧
    w.cell? ⟨b, o + i * 2, none⟩ = some (.int .i64 x.1) ∧ w.cell? ⟨b, o + i * 2 + 1, none⟩ = some (.int .i64 x.2)
theorem CodeNew.code {N : Nat} {w : World} {v : Value} {c : List (Int × Int)} (h : CodeNew N w v c) : CodeAt w v c := by
  obtain ⟨oa, cap, e, hl, hi⟩ := h
  refine ⟨oa, cap, e, hl, fun i x hx => ?_⟩
  obtain ⟨b, o, e1, _, h1, h2⟩ := hi i x hx
  exact ⟨b, o, e1, h1, h2⟩
theorem CodeNew.kept {N : Nat} {w w' : World} {v : Value} {c : List (Int × Int)} (h : CodeNew N w v c) (k : Kept w w') : CodeNew N w' v c := by
  obtain ⟨oa, cap, e, hl, hi⟩ := h
  refine ⟨oa, cap, e, hl, fun i x hx => ?_⟩
  obtain ⟨b, o, e1, hb, h1, h2⟩ := hi i x hx
  exact ⟨b, o, e1, hb, k.cell h1, k.cell h2⟩
theorem CodeNew.keptX {N B : Nat} {w w' : World} {v : Value} {c : List (Int × Int)} (h : CodeNew N w v c) (hB : B < N) (k : KeptX B w w') : CodeNew N w' v c := by
  obtain ⟨oa, cap, e, hl, hi⟩ := h
  refine ⟨oa, cap, e, hl, fun i x hx => ?_⟩
  obtain ⟨b, o, e1, hb, h1, h2⟩ := hi i x hx
  exact ⟨b, o, e1, hb, k.cell (by simp; omega) h1, k.cell (by simp; omega) h2⟩
theorem CodeNew.mono {N N' : Nat} {w : World} {v : Value} {c : List (Int × Int)} (h : CodeNew N w v c) (hn : N' ≤ N) : CodeNew N' w v c := by
  obtain ⟨oa, cap, e, hl, hi⟩ := h
  refine ⟨oa, cap, e, hl, fun i x hx => ?_⟩
  obtain ⟨b, o, e1, hb, h1⟩ := hi i x hx
  exact ⟨b, o, e1, by omega, h1⟩
/-- Ops that were appended one behind the other. -/
theorem codeAt_row {w : World} {base : Nat} {v : Value} {n : Nat} {c : List (Int × Int)} (h : w.ownsRow base 38 2 v n (flatOps c)) (hn : n = c.length) (hl : c.length ≤ 8796093022208) : CodeNew base w v c := by
  subst hn
  obtain ⟨hlen, ⟨rfl, h0⟩ | ⟨g, cap, cur, rfl, hb, hh, _, _, hs, ht⟩⟩ := h
  · have : c = [] := List.length_eq_zero_iff.1 h0
    subst this
    exact ⟨none, 0, rfl, by simp, fun i x hx => by simp at hx⟩
  · refine ⟨_, cap, rfl, hl, fun i x hx => ⟨g, 0, rfl, hb, ?_, ?_⟩⟩
    all_goals
      have hi := (List.getElem?_eq_some_iff.1 hx).1
      obtain ⟨f1, f2⟩ := flatOps_at c i x hx
      rw [← ht, List.getElem?_take, if_pos (by omega)] at f1 f2
      rw [cell_lays hh]
    · simpa using f1
    · simpa using f2
theorem made_size (m : Nat) : (madeCells #[.int .i64 0, .int .i64 0] (m * 2)).size = m * 2 := by simp [madeCells]
theorem make_ops (m : Nat) (hm : m ≤ 1000000) (u : World) : (Instr.makeSlice 34 (.int .i64 0) (.int .i64 m)).run Tryd.prog u =
    .ok (.slice (some ⟨u.heap.size, 0, none⟩) 0 m) (u.alloc (.cells (madeCells #[.int .i64 0, .int .i64 0] (m * 2)) 38)) := by
  obtain ⟨i0, hi, hz0, hz1, hz2⟩ := info_parts infoOp
  have h := run_make (P := Tryd.prog) u 34 38 i0 (.agg #[.int .i64 0, .int .i64 0]) Tryd.underlying34 hi hz0 .i64 .i64 (0 : Int) (m : Int) (by omega) (by omega) (by rw [hz2]; omega) (by omega)
  rw [Int.toNat_natCast] at h
  simpa [hz1, Value.cells] using h

/-- What trimmed hands back. -/
def TrimPost (ar lo : Int) (c : List (Int × Int)) (w : World) (e : Ending) (w' : World) : Prop :=
  ∃ cv, e = .returned (.agg #[.int .i64 ar, .int .i64 lo, cv]) ∧ CodeNew w.heap.size w' cv c ∧ Kept w w'

/-- Jumps that stay go to ops that stay. -/
def JumpsIn (H : List Int) (c : List (Int × Int)) : Prop :=
  ∀ k x, c[k]? = some x → 0 ≤ H.getD k 0 → x.1 = 9 ∨ x.1 = 10 → ∃ t : Nat, x.2 = (t : Int) ∧ t < c.length ∧ 0 ≤ H.getD t 0

set_option maxHeartbeats 8000000 in
set_option maxRecDepth 100000 in
theorem trimmed_go (H : List Int) (c : List (Int × Int)) (ar lo : Int) (bc oc m cc bh oh ch : Nat) (w : World) (hc : CodeAt w (.slice (some ⟨bc, oc, none⟩) m cc) c) (hh : IntsAt w (.slice (some ⟨bh, oh, none⟩) m ch) H) (hml : m = c.length) (hmh : m = H.length) (hm24 : m ≤ 24) (hj : JumpsIn H c) :
    Calls Tryd.prog 30 #[.agg #[.int .i64 ar, .int .i64 lo, .slice (some ⟨bc, oc, none⟩) m cc], .slice (some ⟨bh, oh, none⟩) m ch] w fun e w' => TrimPost ar lo (trimC H c) w e w' := by
  have hcell : ∀ k x, c[k]? = some x → w.cell? ⟨bc, oc + k * 2, none⟩ = some (.int .i64 x.1) ∧ w.cell? ⟨bc, oc + k * 2 + 1, none⟩ = some (.int .i64 x.2) := by
    intro k x hx
    obtain ⟨oa, cap, he, _, hi⟩ := id hc
    obtain ⟨b, o, rfl, x0, x1⟩ := hi k x hx
    obtain ⟨⟨rfl, rfl⟩, -, -⟩ := (by simpa using he : (bc = b ∧ oc = o) ∧ m = c.length ∧ cc = cap)
    exact ⟨x0, x1⟩
  have hhc : ∀ j, j < m → w.cell? ⟨bh, oh + j, none⟩ = some (.int .i64 (H.getD j 0)) := by
    intro j hj
    obtain ⟨oa, cap, he, _, hi⟩ := id hh
    obtain ⟨b, o, rfl, x0⟩ := hi j _ (getD_of_lt H j 0 (by omega))
    obtain ⟨⟨rfl, rfl⟩, -, -⟩ := (by simpa using he : (bh = b ∧ oh = o) ∧ m = H.length ∧ ch = cap)
    exact x0
  have hpl : Maps.size (placesD H H.length) ≤ 24 := by rw [placesD_size]; have := placeS_le H H.length; omega
  have hmk := make_ops (Maps.size (placesD H H.length)) (by omega)
  obtain ⟨i0, hi0, hz0, hz1, hz2⟩ := info_parts infoOp
  have HCELL := hide hcell
  have HHC := hide hhc
  have HML := hide hml
  have HMH := hide hmh
  have HJ := hide hj
  clear hc hh hml hmh hj hcell hhc
  go_enter Tryd.func30, Tryd.ntmps30
  go_wp2_with fail
  refine (places_any H bh oh m ch _ (unhide HMH) hm24 (fun j hj => (((Kept.refl w).alloc _).alloc _).cell ((unhide HHC) j hj))).mono ?_
  rintro e w1 ⟨rfl, hmap, hk1⟩
  have hb0 := lays_kept hk1 (lays_alloc (lays_new (b := w.heap.size) (o := .cells #[.int .i64 ar, .int .i64 lo, .slice (some ⟨bc, oc, none⟩) m cc] 36) rfl) (.cells #[.int .i64 0, .int .i64 0, .slice none 0 0] 36))
  have hb1 := lays_kept hk1 (lays_new (b := w.heap.size + 1) (w := w.alloc (.cells #[.int .i64 ar, .int .i64 lo, .slice (some ⟨bc, oc, none⟩) m cc] 36)) (o := .cells #[.int .i64 0, .int .i64 0, .slice none 0 0] 36) (by simp))
  have hk01 : Kept w w1 := (((Kept.refl w).alloc _).alloc _).trans hk1
  generalize hB : ((w.alloc (Obj.cells #[Value.int IntKind.i64 ar, Value.int IntKind.i64 lo, Value.slice (some { block := bc, off := oc }) m cc] 36)).alloc (Obj.cells #[Value.int IntKind.i64 0, Value.int IntKind.i64 0, Value.slice none 0 0] 36)).heap.size = B at hmap ⊢
  have hown : w1.ownsMap Tryd.prog 3 (plainElem (H := Unit) Tryd.prog 3) B H.length (placesD H H.length) := hmap
  have g2 := cell_lays hb0 2
  simp only [List.getElem?_toArray, List.getElem?_cons_zero, List.getElem?_cons_succ] at g2
  have g2' : ∀ o1, (w1.alloc o1).cell? ⟨w.heap.size, 2, none⟩ = _ := fun o1 => ((Kept.refl w1).alloc o1).cell g2
  have HB0 := hide hb0
  have HB1 := hide hb1
  have HK01 := hide hk01
  have HMAP := hide hmap
  clear hb0 hb1 hk01 hmap hk1 hB
  go_wp2_with (first
    | (at_len; refine wpList_len_own _ rfl _ 69 rfl 3 3 Tryd.underlying69 _ B H.length _ rfl hown ?_)
    | go_in)
  have hr0 : (w1.alloc (Obj.cells (madeCells #[.int .i64 0, .int .i64 0] (Maps.size (placesD H H.length) * 2)) 38)).ownsRow w1.heap.size 38 2 (.slice (some ⟨w1.heap.size, 0, none⟩) 0 (Maps.size (placesD H H.length))) 0 (flatOps []) := World.ownsRow_made w1 _ _ (Nat.le_refl _) (by unfold maxLen; omega) (made_size _)
  have HR0 := hide hr0
  clear hr0
  go_loopw [6, 19] (fun s6 s19 wr => ∃ k : Nat, k ≤ m ∧ s19 = .int .i64 k ∧ Hid (wr.ownsRow w1.heap.size 38 2 s6 (placeS H k) (flatOps (pick H (fun k => moveS H (c.getD k (0, 0))) k))) ∧ Hid (Kept w1 wr)) (fun _ s19 _ => m - (intOf s19).toNat)
  case atStart => exact ⟨0, Nat.zero_le _, rfl, HR0, (Kept.refl _).alloc _⟩
  case round =>
    obtain ⟨k, hkm, rfl, HOW, HKr⟩ := hrel
    clear g2 g2' HR0 hmk
    by_cases hlt : k < m
    · obtain ⟨⟨kd, a⟩, hx⟩ : ∃ x, c[k]? = some x := ⟨_, List.getElem?_eq_getElem (by rw [← unhide HML]; exact hlt)⟩
      obtain ⟨x0, x1⟩ := (unhide HCELL) k _ hx
      have y0 := ((unhide HK01).trans (unhide HKr)).cell x0
      have y1 := ((unhide HK01).trans (unhide HKr)).cell x1
      simp only at y0 y1
      have hma : MapAt (wr.alloc (.cells #[.int .i64 kd, .int .i64 a] 38)) B H := (unhide HMAP).kept ((unhide HKr).alloc _)
      obtain ⟨vk, psk, hlook, _⟩ := World.ownsMap.look_ok (t := 69) (e := 3) hma lawInt Tryd.underlying69 (zeroInt _) (plainElem_int Tryd.underlying3 (by decide)) (key := .int .i64 k) (keyOf_int_mk Tryd.underlying3 (WalkArith.wf_i64 (by omega)))
      rw [placesD_has] at hlook
      have hcd : c.getD k (0, 0) = (kd, a) := by simp [List.getD, hx]
      by_cases hs : 0 ≤ H.getD k 0
      · rw [decide_eq_true (⟨by have := unhide HMH; omega, hs⟩ : k < H.length ∧ 0 ≤ H.getD k 0)] at hlook
        have hp1 : placeS H (k + 1) = placeS H k + 1 := placeS_succ hs
        have hp2 : pick H (fun k => moveS H (c.getD k (0, 0))) (k + 1) = pick H (fun k => moveS H (c.getD k (0, 0))) k ++ [moveS H (kd, a)] := by
          conv => lhs; unfold pick
          rw [if_pos hs, hcd]
        have hple := placeS_le H k
        have HP1 := hide hp1
        by_cases hjz : kd = 9 ∨ kd = 10
        · obtain ⟨t, ht, htm, hts⟩ := (unhide HJ) k _ hx hs hjz
          simp only at ht
          subst ht
          obtain ⟨c2, hlook2, hat2, _⟩ := World.ownsMap.lookup_int (t := 69) (e := 3) (q := .i64) hma lawInt Tryd.underlying69 Tryd.underlying3 (zeroInt _) (key := .int .i64 t) (keyOf_int_mk Tryd.underlying3 (WalkArith.wf_i64 (by have := unhide HML; omega)))
          rw [placesD_at H t hts _ H.length (by have := unhide HML; have := unhide HMH; omega)] at hat2
          obtain rfl : c2 = (placeS H t : Nat) := by simpa using hat2.symm
          have hmv : moveS H (kd, (t : Int)) = (kd, ((placeS H t : Nat) : Int)) := by unfold moveS; rw [if_pos hjz]; simp
          rw [hmv, ] at hp2
          have hfl := congrArg flatOps hp2
          rw [flatOps_snoc] at hfl
          have HFL := hide hfl
          have hown6 := (unhide HOW)
          clear hp1 hp2 hfl hat2 hma hcd hx x0 x1 hmv hts hs
          generalize placeS H t = pt at *
          rcases hjz with rfl | rfl
          all_goals go_wp2_with (at_builtin; refine wpList_append_own _ rfl _ _ 34 rfl w1.heap.size 38 i0 (.agg #[.int .i64 0, .int .i64 0]) 2 16 Tryd.underlying34 hi0 hz0 hz1 hz2 rfl (by decide) _ _ _ rfl ((hown6.alloc _).alloc _) ⟨wr.heap.size + 1, 0, none⟩ 1 1 [.int .i64 _, .int .i64 (pt : Int)] rfl rfl (two_new _ _ _ _ _ (by simp)) (two_int _ _) (by unfold maxLen; omega) (by omega) (by have := (unhide HKr).size; simp; omega) ?_; intro v' w2 hown' hgrow _)
          all_goals have HK2 := hide (Below.grown (((unhide HKr).alloc _).alloc _) hgrow (by have := (unhide HKr).size; simp; omega) (trow_block hown6))
          all_goals have HO2 := hide hown'
          all_goals clear hgrow hown' hown6 hlook hlook2
          all_goals go_roundw
          case rel => exact ⟨k + 1, by omega, by go_num, by rw [unhide HP1, unhide HFL]; exact HO2, HK2⟩
          case measure => simp [intOf]; omega
          case rel => exact ⟨k + 1, by omega, by go_num, by rw [unhide HP1, unhide HFL]; exact HO2, HK2⟩
          case measure => simp [intOf]; omega
        · have h9 : (kd == 9) = false := by rw [beq_eq_false_iff_ne]; intro e; exact hjz (.inl e)
          have h10 : (kd == 10) = false := by rw [beq_eq_false_iff_ne]; intro e; exact hjz (.inr e)
          have hmv : moveS H (kd, a) = (kd, a) := by unfold moveS; rw [if_neg hjz]
          rw [hmv] at hp2
          have hfl := congrArg flatOps hp2
          rw [flatOps_snoc] at hfl
          have HFL := hide hfl
          have hown6 := (unhide HOW)
          clear hp1 hp2 hfl hma hcd hx x0 x1 hmv hs hjz
          go_wp2_with (at_builtin; refine wpList_append_own _ rfl _ _ 34 rfl w1.heap.size 38 i0 (.agg #[.int .i64 0, .int .i64 0]) 2 16 Tryd.underlying34 hi0 hz0 hz1 hz2 rfl (by decide) _ _ _ rfl ((hown6.alloc _).alloc _) ⟨wr.heap.size + 1, 0, none⟩ 1 1 [.int .i64 kd, .int .i64 a] rfl rfl (two_new _ _ _ _ _ (by simp)) (two_int _ _) (by unfold maxLen; omega) (by omega) (by have := (unhide HKr).size; simp; omega) ?_; intro v' w2 hown' hgrow _)
          have HK2 := hide (Below.grown (((unhide HKr).alloc _).alloc _) hgrow (by have := (unhide HKr).size; simp; omega) (trow_block hown6))
          have HO2 := hide hown'
          clear hgrow hown' hown6 hlook
          go_roundw
          case rel => exact ⟨k + 1, by omega, by go_num, by rw [unhide HP1, unhide HFL]; exact HO2, HK2⟩
          case measure => simp [intOf]; omega
      · rw [decide_eq_false (fun h => hs h.2)] at hlook
        have hp1 : placeS H (k + 1) = placeS H k := by
          conv => lhs; unfold placeS
          rw [if_neg hs]
        have hp2 : pick H (fun k => moveS H (c.getD k (0, 0))) (k + 1) = pick H (fun k => moveS H (c.getD k (0, 0))) k := by
          conv => lhs; unfold pick
          rw [if_neg hs]
        have HP1 := hide hp1
        have HP2 := hide hp2
        have HO2 := hide ((unhide HOW).alloc (.cells #[.int .i64 kd, .int .i64 a] 38))
        have HK2 := hide ((unhide HKr).alloc (.cells #[.int .i64 kd, .int .i64 a] 38))
        clear hp1 hp2 hma hcd hx x0 x1 hs
        go_wp2
        go_roundw
        case rel => exact ⟨k + 1, by omega, by go_num, by rw [unhide HP1, unhide HP2]; exact HO2, HK2⟩
        case measure => simp [intOf]; omega
    · have hke : k = H.length := by have := unhide HMH; omega
      have hO := unhide HOW
      rw [hke] at hO
      have hlw : w.heap.size + 1 < w1.heap.size := (Array.getElem?_eq_some_iff.1 (unhide HB1)).1
      have hcode : ∀ u0 u1 u2, CodeNew w1.heap.size (((wr.setCell ⟨w.heap.size + 1, 0, none⟩ u0).setCell ⟨w.heap.size + 1, 1, none⟩ u1).setCell ⟨w.heap.size + 1, 2, none⟩ u2) _ (trimC H c) := fun u0 u1 u2 =>
        codeAt_row (c := trimC H c) (ownsRow_setCell_below (ownsRow_setCell_below (ownsRow_setCell_below hO hlw u0) hlw u1) hlw u2) (trimC_len H c).symm (by rw [trimC_len]; have := placeS_le H H.length; have := unhide HMH; omega)
      have hr0 := lays_kept (unhide HKr) (unhide HB0)
      have hr1 := lays_kept (unhide HKr) (unhide HB1)
      have f0 := cell_lays hr0 0
      have f1 := cell_lays hr0 1
      have e0 := cell_lays hr1 0
      have e1 := cell_lays hr1 1
      have e2 := cell_lays hr1 2
      have z0 := frozen_lays hr1 0
      have z1 := frozen_lays hr1 1
      have z2 := frozen_lays hr1 2
      simp only [List.getElem?_toArray, List.getElem?_cons_zero, List.getElem?_cons_succ] at f0 f1 e0 e1 e2
      obtain ⟨oa6, cp6, he6, _, _⟩ := hcode undef undef undef
      subst he6
      have HCO := hide hcode
      have HR1 := hide hr1
      clear hke hO hcode hr0 hr1
      go_wp2
      have hl3 := lays_set (lays_set (lays_set (unhide HR1) 0 (.int .i64 ar)) 1 (.int .i64 lo)) 2 (.slice oa6 (trimC H c).length cp6)
      have k0 := cell_lays hl3 0
      have k1 := cell_lays hl3 1
      have k2 := cell_lays hl3 2
      simp only [Array.setIfInBounds, List.size_toArray, List.length_cons, List.length_nil] at k0 k1 k2
      refine bodyPost_ret (v := .agg #[.int .i64 ar, .int .i64 lo, .slice oa6 (trimC H c).length cp6]) (by simp [results, Tryd.results30, go_sem, k0, k1, k2]) rfl ?_
      exact ⟨_, rfl, ((unhide HCO) _ _ _).mono (unhide HK01).size, ((((unhide HK01).trans (unhide HKr)).setCell (p := ⟨w.heap.size + 1, 0, none⟩) (Nat.le_succ _) _).setCell (p := ⟨w.heap.size + 1, 1, none⟩) (Nat.le_succ _) _).setCell (p := ⟨w.heap.size + 1, 2, none⟩) (Nat.le_succ _) _⟩
end Go.Proofs.YtkepbeeioalmbabDoor
