/- FlowF, FlowG, TrimA, TrimB, ProgA, TrimC -/
import Derived.Test.YtkepbeeioalmbabDoorTM10
import Derived.Test.YtkepbeeioalmbabDoorTM09
import Derived.Deep.DeepCutAuto
import Derived.Deep.RegionWith
import Derived.JoinedCond
import Derived.Test.YtkepbeeioalmbabDoorTM02
import Derived.Maps.OwnSet
import Derived.OwnWalk
import Derived.Test.YtkepbeeioalmbabDoorTM01
set_option maxRecDepth 100000
set_option maxHeartbeats 8000000
namespace Go.Proofs.YtkepbeeioalmbabDoor
open Go.RowKit Go.Shelf
theorem come_any (p : List Fn) (g : Fn) (oa : Option Addr) (lp cp : Nat) (oc : Option Addr) (lc cc B : Nat) (w0 : World) (hlc : lc = g.code.length) : ∀ (n : Nat) (H : List Int) (at_ : Nat) (h : Int) (w : World),
    ComeAt w0 w p g (.slice oa lp cp) (.slice oc lc cc) B H → 0 ≤ h → h ≤ 8 → unv H < n →
    Calls Tryd.prog 34 #[.agg #[.slice oa lp cp, .slice oc lc cc, .slice (some ⟨B, 0, none⟩) lc lc], .int .i64 at_, .int .i64 h] w fun e w' => ComePost p g n H at_ h B w e w'
  | 0, H, at_, h, w, _, _, _, hu => by omega
  | n + 1, H, at_, h, w, hw, h0, h8, hu => by
    by_cases h1 : lc ≤ at_
    · exact come_beyond n p g oa oc lp cp lc cc B H at_ h w hw.hs hlc (by omega)
    · by_cases h2 : H.getD at_ 0 = -1
      · obtain ⟨x, hx⟩ : ∃ x, g.code[at_]? = some x := ⟨_, List.getElem?_eq_getElem (by omega)⟩
        obtain ⟨oa', cap', he, _, hcell⟩ := id hw.code
        obtain ⟨b', o', rfl, x0, x1⟩ := hcell at_ x hx
        obtain ⟨rfl, -, -⟩ := (by simpa using he : oc = some ⟨b', o', none⟩ ∧ lc = g.code.length ∧ cc = cap')
        exact come_new n p g oa b' o' lp cp lc cc B H at_ h x w0 w hw hlc (by omega) hx x0 x1 h2 h0 h8 hu (fun H' at' h' w' a b c d => come_any p g oa lp cp _ lc cc B w0 hlc n H' at' h' w' a b c d)
      · exact come_seen n p g oa oc lp cp lc cc B H at_ h w hw.hs hlc hw.len (by omega) h2
def IntsAt (w : World) (v : Value) (l : List Int) : Prop :=
  ∃ oa cap, v = .slice oa l.length cap ∧ l.length ≤ 8796093022208 ∧ ∀ i z, l[i]? = some z → ∃ b o, oa = some ⟨b, o, none⟩ ∧ w.cell? ⟨b, o + i, none⟩ = some (.int .i64 z)
theorem IntsAt.kept {w w' : World} (h : Kept w w') {v : Value} {l : List Int} (hl : IntsAt w v l) : IntsAt w' v l := by
  obtain ⟨oa, cap, e, hn, hi⟩ := hl
  refine ⟨oa, cap, e, hn, fun i z hz => ?_⟩
  obtain ⟨b, o, e1, h1⟩ := hi i z hz
  exact ⟨b, o, e1, h.cell h1⟩
theorem IntsAt.nil (w : World) : IntsAt w (.slice none 0 0) [] := ⟨none, 0, rfl, by simp, fun i z h => by simp at h⟩
def hgtS (p : List Fn) (f : Int) : List Int × Int :=
  if chkS p f = 0 then
    match heightsS p (p.getD f.toNat Fn.zero).code with
    | some H => (H, 0)
    | none => ([], 1)
  else ([], chkS p f)
def HgtPost (p : List Fn) (f : Int) (w : World) (e : Ending) (w' : World) : Prop :=
  ∃ v, e = .returned (.tuple #[v, .int .i64 (hgtS p f).2]) ∧ IntsAt w' v (hgtS p f).1 ∧ Kept w w'
theorem heights_bad (p : List Fn) (v : Value) (f : Int) (w : World) (hp : ProgAt w v p) (hk : KindsAt w) (hz : chkS p f ≠ 0) :
    Calls Tryd.prog 22 #[v, .int .i64 f] w fun e w' => HgtPost p f w e w' := by
  obtain ⟨oa, cap, rfl, _, _⟩ := id hp
  have hz' : (chkS p f != 0) = true := by rw [bne_iff_ne]; exact hz
  have hr : hgtS p f = ([], chkS p f) := by unfold hgtS; rw [if_neg hz]
  have HR := hide hr
  have HP := hide hp
  have HK := hide hk
  clear hp hk hz hr
  go_enter Tryd.func22, Tryd.ntmps22
  go_wp2_with fail
  refine (check_any p _ f _ (unhide HP) (unhide HK)).mono ?_
  rintro e w1 ⟨rfl, hk1⟩
  have H1 := hide hk1
  clear hk1
  generalize hc : chkS p f = r at *
  have HC := hide hc
  clear hc
  go_wp2
  go_ret2
  exact ⟨.slice none 0 0, by rw [unhide HR]; rfl, by rw [unhide HR]; exact IntsAt.nil _, unhide H1⟩
theorem infoInt : (Tryd.prog.info? 3).map (fun i => (i.zero, i.size, i.bytes)) = some (some (.int .i64 0), 1, 8) := by kernel_rfl
theorem made_ints (m : Nat) : madeCells #[.int .i64 0] m = ((List.replicate m (0 : Int)).map (fun z => Value.int .i64 z)).toArray := by
  apply Array.ext
  · simp [madeCells]
  · intro i h1 h2
    simp [madeCells, Nat.mod_one]
theorem make_ints (m : Nat) (hm : m ≤ 1000000) (u : World) : (Instr.makeSlice 46 (.int .i64 m) (.int .i64 m)).run Tryd.prog u =
    .ok (.slice (some ⟨u.heap.size, 0, none⟩) m m) (u.alloc (.cells ((List.replicate m (0 : Int)).map (fun z => Value.int .i64 z)).toArray 3)) := by
  obtain ⟨i0, hi, hz0, hz1, hz2⟩ := info_parts infoInt
  have h := run_make (P := Tryd.prog) u 46 3 i0 (.int .i64 0) Tryd.underlying46 hi hz0 .i64 .i64 (m : Int) (m : Int) (by omega) (Int.le_refl _) (by rw [hz2]; omega) (by omega)
  rw [Int.toNat_natCast] at h
  rw [← made_ints]
  simpa [hz1, Value.cells] using h
theorem fill_step {k m : Nat} (h : k < m) : (List.replicate k (-1 : Int) ++ List.replicate (m - k) 0).set k (-1) = List.replicate (k + 1) (-1) ++ List.replicate (m - (k + 1)) 0 := by
  obtain ⟨d, rfl⟩ : ∃ d, m = k + 1 + d := ⟨m - (k + 1), by omega⟩
  rw [List.set_append_right _ _ (by simp)]
  have e1 : k + 1 + d - k = d + 1 := by omega
  have e2 : k + 1 + d - (k + 1) = d := by omega
  rw [e1, e2, List.replicate_succ]
  simp [List.replicate_succ', List.append_assoc]
theorem heights_zero {w : World} {B m : Nat} (h : w.heap[B]? = some (.cells (Array.replicate m (.int .i64 0)) 3)) : HeightsAt w B (List.replicate m 0) := by
  unfold HeightsAt
  rw [h]
  simp
theorem heights_try (p : List Fn) (g : Fn) (i b o cap : Nat) (oc : Option Addr) (m cc : Nat) (w : World) (hk : KindsAt w) (hp : ProgAt w (.slice (some ⟨b, o, none⟩) p.length cap) p) (hi : i < p.length) (hg : p.getD i Fn.zero = g)
    (c2 : w.cell? ⟨b, o + i * 3 + 2, none⟩ = some (.slice oc m cc)) (hc : CodeAt w (.slice oc m cc) g.code) (hml : m = g.code.length) (hm : m ≤ 24) (hz : chkS p i = 0) (hops : opsS p g g.code = 0) :
    Calls Tryd.prog 22 #[.slice (some ⟨b, o, none⟩) p.length cap, .int .i64 i] w fun e w' => HgtPost p i w e w' := by
  have HK := hide hk
  have HP := hide hp
  have HG := hide hg
  have HC := hide hc
  have HL := hide hml
  have HZ := hide hz
  have HO := hide hops
  have C2 := hide c2
  clear hk hp hg hc hml hz hops c2
  go_enter Tryd.func22, Tryd.ntmps22
  go_wp2_with fail
  refine (check_is p _ i 0 _ (unhide HP) (unhide HK) (unhide HZ)).mono ?_
  rintro e w1 ⟨rfl, hk1⟩
  have d2 := hk1.cell (unhide C2)
  have H1 := hide hk1
  clear hk1
  have d2' : ∀ o1, (w1.alloc o1).cell? ⟨b, o + i * 3 + 2, none⟩ = some (.slice oc m cc) := fun o1 => ((Kept.refl w1).alloc o1).cell d2
  have d2'' : ∀ o1 o2, ((w1.alloc o1).alloc o2).cell? ⟨b, o + i * 3 + 2, none⟩ = some (.slice oc m cc) := fun o1 o2 => (((Kept.refl w1).alloc o1).alloc o2).cell d2
  have hmk := make_ints m (by omega)
  go_wp2_with fail
  go_cut [7] (fun s7 wx => ∃ B Bw, s7 = .pointer (some ⟨Bw, 0, none⟩) ∧ Hid (wx.heap[Bw]? = some (.cells #[.slice (some ⟨b, o, none⟩) p.length cap, .slice oc m cc, .slice (some ⟨B, 0, none⟩) m m] 59)) ∧ Hid (HeightsAt wx B (List.replicate m 0)) ∧ w1.heap.size ≤ B ∧ w1.heap.size ≤ Bw ∧ B ≠ Bw ∧ Hid (Kept w1 wx))
  case first =>
    go_region
    all_goals go_wp2_with fail
    all_goals go_meet
    · exact ⟨w1.heap.size, w1.heap.size + 1, rfl, hide (lays_drew (lays_new (by simp))), hide (heights_zero (lays_drew (lays_alloc (lays_new rfl) _))), Nat.le_refl _, Nat.le_succ _, by omega, hide ((((Kept.refl _).alloc _).alloc _).drew)⟩
    · exact ⟨w1.heap.size + 1, w1.heap.size, rfl, hide (lays_drew (lays_alloc (lays_new rfl) _)), hide (heights_zero (lays_drew (lays_new (by simp)))), Nat.le_succ _, Nat.le_refl _, by omega, hide ((((Kept.refl _).alloc _).alloc _).drew)⟩
  case rest =>
    obtain ⟨B, Bw, rfl, L0, HH0, hB, hBw, hne, HK1⟩ := hcut
    have e2 := cell_lays (unhide L0) 2
    simp only [List.getElem?_toArray, List.getElem?_cons_zero, List.getElem?_cons_succ] at e2
    clear d2 d2' d2'' hmk
    go_wp2
    go_loopw [32] (fun s32 wr => ∃ k : Nat, k ≤ m ∧ s32 = .int .i64 k ∧ Hid (wr.heap[Bw]? = some (.cells #[.slice (some ⟨b, o, none⟩) p.length cap, .slice oc m cc, .slice (some ⟨B, 0, none⟩) m m] 59)) ∧ Hid (HeightsAt wr B (List.replicate k (-1) ++ List.replicate (m - k) 0)) ∧ Hid (Kept w1 wr)) (fun s32 _ => m - (intOf s32).toNat)
    case atStart => exact ⟨0, Nat.zero_le _, rfl, L0, by simpa using HH0, HK1⟩
    case round =>
      obtain ⟨k, hkm, rfl, L0r, HHr, HKr⟩ := hrel
      have f0 := cell_lays (unhide L0r) 0
      have f1 := cell_lays (unhide L0r) 1
      have f2 := cell_lays (unhide L0r) 2
      simp only [List.getElem?_toArray, List.getElem?_cons_zero, List.getElem?_cons_succ] at f0 f1 f2
      by_cases hlt : k < m
      · have q := (unhide HHr).cell (k := k) (by simp; omega)
        have q' := (unhide HHr).frozen k
        have hset := (unhide HHr).set k (-1)
        rw [fill_step hlt] at hset
        have HSET := hide hset
        generalize (List.replicate k (-1 : Int) ++ List.replicate (m - k) 0).getD k 0 = z at q
        clear hset
        go_wp2
        go_roundw
        case rel => exact ⟨k + 1, by omega, by go_num, lays_other (unhide L0r) (fun e => hne e.symm) _, unhide HSET, (unhide HKr).setCell (p := ⟨B, k, none⟩) hB _⟩
        case measure => simp [intOf]; omega
      · have hke : k = m := by omega
        have hst : List.replicate k (-1 : Int) ++ List.replicate (m - k) 0 = start g.code := by
          have := unhide HL
          rw [hke, Nat.sub_self]
          simp [start, this]
        have hHs := unhide HHr
        rw [hst] at hHs
        have hu := unv_le (start g.code)
        rw [show (start g.code).length = g.code.length by simp [start]] at hu
        have hright : ∀ x, x ∈ g.code → opS p g x = 0 := fun x hx => opsS_all (unhide HO) x hx
        have hcm := come_any p g (some ⟨b, o, none⟩) p.length cap oc m cc B w1 (unhide HL) (g.code.length + 1) (start g.code) 0 0 wr ⟨(unhide HP).kept (unhide H1), (unhide HC).kept (unhide H1), (unhide HK).kept (unhide H1), hright, by have := unhide HL; omega, unhide HKr, hB, hHs, by simp [start]⟩ (by omega) (by omega) (by omega)
        have HCM := hide hcm
        have HRT := hide hright
        clear hcm hright hu hHs hst hke
        go_wp2_with fail
        refine (unhide HCM).mono ?_
        clear HCM
        rintro e w2 ⟨bb, H2, hc2, rfl, hH2, hk2⟩
        have hgt : hgtS p i = match heightsS p g.code with | some H => (H, 0) | none => ([], 1) := by
          unfold hgtS
          rw [if_pos (unhide HZ), Int.toNat_natCast, unhide HG]
        have hkw : Kept w w2 := (unhide H1).trans (KeptX.kept (unhide HKr) hB hk2)
        have g2 := cell_lays (hk2.lays (fun e => hne e.symm) (unhide L0r)) 2
        simp only [List.getElem?_toArray, List.getElem?_cons_zero, List.getElem?_cons_succ] at g2
        have HGT := hide hgt
        have HKW := hide hkw
        have HC2 := hide hc2
        have HH2 := hide hH2
        clear hgt hkw hc2 hH2 hk2 f0 f1 f2
        have hR : Right p g.code := ⟨g, rfl, unhide HRT⟩
        cases bb with
        | false =>
          have hn : heightsS p g.code = none := by
            cases hh : heightsS p g.code with
            | none => rfl
            | some H =>
              have := (way_heights hR).2 H hh
              unfold wayS at this
              rw [unhide HC2] at this
              cases this
          have HN := hide hn
          clear hn hR
          go_wp2
          go_ret2
          have hgt := unhide HGT
          rw [unhide HN] at hgt
          exact ⟨.slice none 0 0, by rw [hgt]; rfl, by rw [hgt]; exact IntsAt.nil _, unhide HKW⟩
        | true =>
          have hs : heightsS p g.code = some H2 := (way_heights hR).1 H2 (unhide HC2)
          have hlen : H2.length = m := by rw [(heightsS_ok hR hs).1.len]; exact (unhide HL).symm
          have HS := hide hs
          have HLN := hide hlen
          clear hs hlen hR
          go_wp2
          go_ret2
          have hgt := unhide HGT
          rw [unhide HS] at hgt
          refine ⟨.slice (some ⟨B, 0, none⟩) m m, by rw [hgt]; rfl, ?_, unhide HKW⟩
          rw [hgt]
          have hlen := unhide HLN
          refine ⟨_, m, by rw [hlen], by simp only; omega, fun k z hz => ⟨B, 0, rfl, ?_⟩⟩
          have hk := (List.getElem?_eq_some_iff.1 hz).1
          have := (unhide HH2).cell (k := k) hk
          rw [Nat.zero_add, this]
          simp [List.getD, hz]
theorem heights_any (p : List Fn) (v : Value) (f : Int) (w : World) (hp : ProgAt w v p) (hk : KindsAt w) :
    Calls Tryd.prog 22 #[v, .int .i64 f] w fun e w' => HgtPost p f w e w' := by
  by_cases hz : chkS p f = 0
  · obtain ⟨i, rfl, hi, hm, hr, hops⟩ := chkS_zero hz
    obtain ⟨oa, cap, rfl, hl, hcell⟩ := id hp
    obtain ⟨b, o, cv, rfl, c0, c1, c2, hc⟩ := hcell i _ (getD_of_lt p i Fn.zero hi)
    obtain ⟨oc, cc, rfl, _, _⟩ := id hc
    exact heights_try p _ i b o cap oc _ cc w hk hp hi rfl c2 hc rfl hm hz hops
  · exact heights_bad p v f w hp hk hz
open Go.RowKit Go.Maps
def placesD (H : List Int) : Nat → DataW Unit
  | 0 => .map []
  | k + 1 => if 0 ≤ H.getD k 0 then (placesD H k).put (.int .i64 k) (.lit (.int .i64 (placeS H k))) else placesD H k
theorem key_is (a : Int) : WideAt.IsKeyLit (Lit.int .i64 a) := trivial
theorem key_ne {a b : Nat} (h : a ≠ b) : Lit.int .i64 (a : Int) ≠ Lit.int .i64 (b : Int) := by
  intro e
  simp only [Lit.int.injEq, true_and] at e
  omega
theorem placesD_tidy (H : List Int) : ∀ n, Tidy (placesD H n)
  | 0 => tidy_empty
  | n + 1 => by
    unfold placesD
    split
    · exact (placesD_tidy H n).put (key_is _) _
    · exact placesD_tidy H n
theorem placesD_has (H : List Int) (j : Nat) : ∀ n, Maps.has (placesD H n) (.int .i64 j) = decide (j < n ∧ 0 ≤ H.getD j 0)
  | 0 => by simp [placesD, Maps.has]
  | n + 1 => by
    have ih := placesD_has H j n
    unfold placesD
    by_cases hj : j = n
    · subst hj
      by_cases hs : 0 ≤ H.getD j 0
      · rw [if_pos hs, has_put_same (placesD_tidy H j).isMap (key_is _)]; exact (decide_eq_true ⟨Nat.lt_succ_self _, hs⟩).symm
      · rw [if_neg hs, ih]; simp only [hs, and_false]
    · have e : decide (j < n + 1 ∧ 0 ≤ H.getD j 0) = decide (j < n ∧ 0 ≤ H.getD j 0) := by
        apply decide_eq_decide.2
        omega
      rw [e]
      split
      · rw [has_put_other (key_ne hj), ih]
      · exact ih
theorem placesD_at (H : List Int) (j : Nat) (hs : 0 ≤ H.getD j 0) (z : DataW Unit) : ∀ n, j < n → (placesD H n).atKey (.int .i64 j) z = .lit (.int .i64 (placeS H j))
  | 0, h => by omega
  | n + 1, h => by
    unfold placesD
    by_cases hj : j = n
    · subst hj
      rw [if_pos hs, atKey_put_same (placesD_tidy H j).isMap (key_is _)]
    · have ih := placesD_at H j hs z n (by omega)
      split
      · rw [atKey_put_other (key_ne hj), ih]
      · exact ih
theorem placesD_size (H : List Int) : ∀ n, Maps.size (placesD H n) = placeS H n
  | 0 => rfl
  | n + 1 => by
    have ih := placesD_size H n
    have hh := placesD_has H n n
    unfold placesD placeS
    split
    · rw [size_put (placesD_tidy H n), hh, ih]; simp
    · exact ih
theorem lawInt : Keyed Tryd.prog 3 := int_keyed Tryd.underlying3
theorem zeroInt (w : World) : (zeroValue 3).run Tryd.prog w = .ok (.int .i64 0) w := by kernel_rfl
theorem make_hint (n : Nat) (u : World) : (Instr.makeMap 69 (some (.int .i64 n))).run Tryd.prog u = .ok (.map (some u.heap.size)) (u.alloc (.map #[] 0)) := by
  simp [Instr.makeMap, run_underlying Tryd.underlying69, asInt, asIntOf, Result.andThen]
def MapAt (w : World) (B : Nat) (H : List Int) : Prop := w.ownsMap Tryd.prog 3 (plainElem (H := Unit) Tryd.prog 3) B H.length (placesD H H.length)
theorem MapAt.kept {w w' : World} {B : Nat} {H : List Int} (h : MapAt w B H) (k : Kept w w') : MapAt w' B H := by
  obtain ⟨es, clock, hb, F, hs, hD⟩ := h
  exact ⟨es, clock, lays_kept k hb, F, hs, hD⟩
theorem IntsAt.opened {w : World} {v : Value} {l : List Int} (h : IntsAt w v l) (h0 : 0 < l.length) : ∃ b o cap, v = .slice (some ⟨b, o, none⟩) l.length cap ∧ ∀ j, j < l.length → w.cell? ⟨b, o + j, none⟩ = some (.int .i64 (l.getD j 0)) := by
  obtain ⟨oa, cap, rfl, _, hi⟩ := h
  obtain ⟨b, o, rfl, _⟩ := hi 0 _ (getD_of_lt l 0 0 h0)
  refine ⟨b, o, cap, rfl, fun j hj => ?_⟩
  obtain ⟨b', o', e, hc⟩ := hi j _ (getD_of_lt l j 0 hj)
  obtain ⟨rfl, rfl⟩ := (by simpa using e : b = b' ∧ o = o')
  exact hc
theorem places_any (H : List Int) (b o m cap : Nat) (w : World) (hm : m = H.length) (hm24 : m ≤ 24) (hc : ∀ j, j < m → w.cell? ⟨b, o + j, none⟩ = some (.int .i64 (H.getD j 0))) :
    Calls Tryd.prog 43 #[.slice (some ⟨b, o, none⟩) m cap] w fun e w' => e = .returned (.map (some w.heap.size)) ∧ MapAt w' w.heap.size H ∧ Kept w w' := by
  have hmm := make_hint m
  have HM := hide hm
  have HC := hide hc
  clear hm hc
  go_enter Tryd.func43, Tryd.ntmps43
  go_wp2
  go_loopw [11] (fun s wr => ∃ k : Nat, k ≤ m ∧ s = .int .i64 k ∧ Hid (wr.ownsMap Tryd.prog 3 (plainElem (H := Unit) Tryd.prog 3) w.heap.size k (placesD H k)) ∧ Hid (Kept w wr)) (fun s _ => m - (intOf s).toNat)
  case atStart => exact ⟨0, Nat.zero_le _, rfl, World.ownsMap_made _ _ _ _, (Kept.refl _).alloc _⟩
  case round =>
    obtain ⟨k, hkm, rfl, HO, HKr⟩ := hrel
    by_cases hlt : k < m
    · have ck := (unhide HKr).cell ((unhide HC) k hlt)
      by_cases hs : 0 ≤ H.getD k 0
      · have hsz : (Maps.size (placesD H k) : Int) = (placeS H k : Nat) := by rw [placesD_size]
        have hle := placeS_le H k
        have hD : placesD H (k + 1) = (placesD H k).put (.int .i64 k) (.lit (.int .i64 (placeS H k))) := by
          conv => lhs; unfold placesD
          rw [if_pos hs]
        have hwf : (Lit.int .i64 (Maps.size (placesD H k) : Int)).wf = true := WalkArith.wf_i64 (by omega)
        have hown := unhide HO
        generalize H.getD k 0 = z at ck hs
        have HD := hide hD
        have HSZ := hide hsz
        clear hD hle
        go_wp2_with (first
          | (at_len; refine wpList_len_own _ rfl _ 69 rfl 3 3 Tryd.underlying69 _ w.heap.size k _ rfl hown ?_)
          | (at_mapUpdate; refine wpList_mapUpdate_own _ rfl _ _ _ 69 rfl 3 3 lawInt Tryd.underlying69 _ w.heap.size k _ rfl hown (by unfold maxLen; omega) _ _ _ rfl rfl (keyOf_int_mk Tryd.underlying3 (WalkArith.wf_i64 (by omega))) _ [] (plainElem_int Tryd.underlying3 hwf) ?_; intro w1 hown1 hgrow1)
          | go_in)
        have HO1 := hide hown1
        have HK1 := hide (Below.grown (unhide HKr) hgrow1 (unhide HKr).size (fun j hj => by cases hj; exact Nat.le_refl _))
        clear hown1 hgrow1 hown
        go_roundw
        case rel => exact ⟨k + 1, by omega, by go_num, by rw [unhide HD, ← unhide HSZ]; exact HO1, HK1⟩
        case measure => simp [intOf]; omega
      · have hD : placesD H (k + 1) = placesD H k := by
          conv => lhs; unfold placesD
          rw [if_neg hs]
        generalize H.getD k 0 = z at ck hs
        have HD := hide hD
        clear hD
        go_wp2
        go_roundw
        case rel => exact ⟨k + 1, by omega, by go_num, by rw [unhide HD]; exact (unhide HO).mono (Nat.le_succ _), HKr⟩
        case measure => simp [intOf]; omega
    · have hke : k = H.length := by have := unhide HM; omega
      have HE := hide hke
      clear hke
      go_wp2
      go_ret
      refine ⟨rfl, ?_, unhide HKr⟩
      have := unhide HO
      rw [unhide HE] at this
      exact this
theorem infoOp : (Tryd.prog.info? 38).map (fun i => (i.zero, i.size, i.bytes)) = some (some (.agg #[.int .i64 0, .int .i64 0]), 2, 16) := by kernel_rfl
theorem two_new (w : World) (a b : Int) (t : TypeId) (n : Nat) (hn : w.heap.size = n) : ∀ j u, [Value.int .i64 a, Value.int .i64 b][j]? = some u → (w.alloc (.cells #[.int .i64 a, .int .i64 b] t)).cell? ((⟨n, 0, none⟩ : Addr).add j) = some u := by
  subst hn
  intro j u hj
  match j, hj with
  | 0, hj => simp at hj; subst hj; exact cell_lays (lays_new rfl) 0
  | 1, hj => simp at hj; subst hj; exact cell_lays (lays_new rfl) 1
  | j + 2, hj => simp at hj
theorem two_int (a b : Int) : ∀ u, u ∈ [Value.int .i64 a, Value.int .i64 b] → u.oneCell' = true := by
  intro u hu
  simp only [List.mem_cons, List.not_mem_nil, or_false] at hu
  rcases hu with rfl | rfl <;> rfl
theorem trow_block {w : World} {base : Nat} {e : TypeId} {size : Nat} {v : Value} {n : Nat} {xs : List Value} (h : w.ownsRow base e size v n xs) : ∀ r, v.ownBlock = some r → base ≤ r := by
  intro r hr
  obtain ⟨_, h0 | ⟨g, cap, cur, hv, hb, _⟩⟩ := h
  · rw [h0.1] at hr; cases hr
  · rw [hv] at hr; cases hr; exact hb
theorem flatOps_snoc (c : List (Int × Int)) (x : Int × Int) : flatOps (c ++ [x]) = flatOps c ++ [.int .i64 x.1, .int .i64 x.2] := by simp [flatOps]
def CodeNew (N : Nat) (w : World) (v : Value) (c : List (Int × Int)) : Prop :=
  ∃ oa cap, v = .slice oa c.length cap ∧ c.length ≤ 8796093022208 ∧ ∀ i x, c[i]? = some x → ∃ b o, oa = some ⟨b, o, none⟩ ∧ N ≤ b ∧
    w.cell? ⟨b, o + i * 2, none⟩ = some (.int .i64 x.1) ∧ w.cell? ⟨b, o + i * 2 + 1, none⟩ = some (.int .i64 x.2)
theorem CodeNew.code {N : Nat} {w : World} {v : Value} {c : List (Int × Int)} (h : CodeNew N w v c) : CodeAt w v c := by
  obtain ⟨oa, cap, e, hl, hi⟩ := h
  refine ⟨oa, cap, e, hl, fun i x hx => ?_⟩
  obtain ⟨b, o, e1, _, h1, h2⟩ := hi i x hx
  exact ⟨b, o, e1, h1, h2⟩
theorem CodeNew.kept {N : Nat} {w w' : World} {v : Value} {c : List (Int × Int)} (h : CodeNew N w v c) (k : Kept w w') : CodeNew N w' v c := by
  obtain ⟨oa, cap, e, hl, hi⟩ := h
  refine ⟨oa, cap, e, hl, fun i x hx => ?_⟩
  obtain ⟨b, o, e1, hb, h1, h2⟩ := hi i x hx
  exact ⟨b, o, e1, hb, k.cell h1, k.cell h2⟩
theorem CodeNew.keptX {N B : Nat} {w w' : World} {v : Value} {c : List (Int × Int)} (h : CodeNew N w v c) (hB : B < N) (k : KeptX B w w') : CodeNew N w' v c := by
  obtain ⟨oa, cap, e, hl, hi⟩ := h
  refine ⟨oa, cap, e, hl, fun i x hx => ?_⟩
  obtain ⟨b, o, e1, hb, h1, h2⟩ := hi i x hx
  exact ⟨b, o, e1, hb, k.cell (by simp; omega) h1, k.cell (by simp; omega) h2⟩
theorem CodeNew.mono {N N' : Nat} {w : World} {v : Value} {c : List (Int × Int)} (h : CodeNew N w v c) (hn : N' ≤ N) : CodeNew N' w v c := by
  obtain ⟨oa, cap, e, hl, hi⟩ := h
  refine ⟨oa, cap, e, hl, fun i x hx => ?_⟩
  obtain ⟨b, o, e1, hb, h1⟩ := hi i x hx
  exact ⟨b, o, e1, by omega, h1⟩
theorem codeAt_row {w : World} {base : Nat} {v : Value} {n : Nat} {c : List (Int × Int)} (h : w.ownsRow base 38 2 v n (flatOps c)) (hn : n = c.length) (hl : c.length ≤ 8796093022208) : CodeNew base w v c := by
  subst hn
  obtain ⟨hlen, ⟨rfl, h0⟩ | ⟨g, cap, cur, rfl, hb, hh, _, _, hs, ht⟩⟩ := h
  · have : c = [] := List.length_eq_zero_iff.1 h0
    subst this
    exact ⟨none, 0, rfl, by simp, fun i x hx => by simp at hx⟩
  · refine ⟨_, cap, rfl, hl, fun i x hx => ⟨g, 0, rfl, hb, ?_, ?_⟩⟩
    all_goals
      have hi := (List.getElem?_eq_some_iff.1 hx).1
      obtain ⟨f1, f2⟩ := flatOps_at c i x hx
      rw [← ht, List.getElem?_take, if_pos (by omega)] at f1 f2
      rw [cell_lays hh]
    · simpa using f1
    · simpa using f2
theorem made_size (m : Nat) : (madeCells #[.int .i64 0, .int .i64 0] (m * 2)).size = m * 2 := by simp [madeCells]
theorem make_ops (m : Nat) (hm : m ≤ 1000000) (u : World) : (Instr.makeSlice 34 (.int .i64 0) (.int .i64 m)).run Tryd.prog u =
    .ok (.slice (some ⟨u.heap.size, 0, none⟩) 0 m) (u.alloc (.cells (madeCells #[.int .i64 0, .int .i64 0] (m * 2)) 38)) := by
  obtain ⟨i0, hi, hz0, hz1, hz2⟩ := info_parts infoOp
  have h := run_make (P := Tryd.prog) u 34 38 i0 (.agg #[.int .i64 0, .int .i64 0]) Tryd.underlying34 hi hz0 .i64 .i64 (0 : Int) (m : Int) (by omega) (by omega) (by rw [hz2]; omega) (by omega)
  rw [Int.toNat_natCast] at h
  simpa [hz1, Value.cells] using h
def TrimPost (ar lo : Int) (c : List (Int × Int)) (w : World) (e : Ending) (w' : World) : Prop :=
  ∃ cv, e = .returned (.agg #[.int .i64 ar, .int .i64 lo, cv]) ∧ CodeNew w.heap.size w' cv c ∧ Kept w w'
def JumpsIn (H : List Int) (c : List (Int × Int)) : Prop :=
  ∀ k x, c[k]? = some x → 0 ≤ H.getD k 0 → x.1 = 9 ∨ x.1 = 10 → ∃ t : Nat, x.2 = (t : Int) ∧ t < c.length ∧ 0 ≤ H.getD t 0
theorem trimmed_go (H : List Int) (c : List (Int × Int)) (ar lo : Int) (bc oc m cc bh oh ch : Nat) (w : World) (hc : CodeAt w (.slice (some ⟨bc, oc, none⟩) m cc) c) (hh : IntsAt w (.slice (some ⟨bh, oh, none⟩) m ch) H) (hml : m = c.length) (hmh : m = H.length) (hm24 : m ≤ 24) (hj : JumpsIn H c) :
    Calls Tryd.prog 30 #[.agg #[.int .i64 ar, .int .i64 lo, .slice (some ⟨bc, oc, none⟩) m cc], .slice (some ⟨bh, oh, none⟩) m ch] w fun e w' => TrimPost ar lo (trimC H c) w e w' := by
  have hcell : ∀ k x, c[k]? = some x → w.cell? ⟨bc, oc + k * 2, none⟩ = some (.int .i64 x.1) ∧ w.cell? ⟨bc, oc + k * 2 + 1, none⟩ = some (.int .i64 x.2) := by
    intro k x hx
    obtain ⟨oa, cap, he, _, hi⟩ := id hc
    obtain ⟨b, o, rfl, x0, x1⟩ := hi k x hx
    obtain ⟨⟨rfl, rfl⟩, -, -⟩ := (by simpa using he : (bc = b ∧ oc = o) ∧ m = c.length ∧ cc = cap)
    exact ⟨x0, x1⟩
  have hhc : ∀ j, j < m → w.cell? ⟨bh, oh + j, none⟩ = some (.int .i64 (H.getD j 0)) := by
    intro j hj
    obtain ⟨oa, cap, he, _, hi⟩ := id hh
    obtain ⟨b, o, rfl, x0⟩ := hi j _ (getD_of_lt H j 0 (by omega))
    obtain ⟨⟨rfl, rfl⟩, -, -⟩ := (by simpa using he : (bh = b ∧ oh = o) ∧ m = H.length ∧ ch = cap)
    exact x0
  have hpl : Maps.size (placesD H H.length) ≤ 24 := by rw [placesD_size]; have := placeS_le H H.length; omega
  have hmk := make_ops (Maps.size (placesD H H.length)) (by omega)
  obtain ⟨i0, hi0, hz0, hz1, hz2⟩ := info_parts infoOp
  have HCELL := hide hcell
  have HHC := hide hhc
  have HML := hide hml
  have HMH := hide hmh
  have HJ := hide hj
  clear hc hh hml hmh hj hcell hhc
  go_enter Tryd.func30, Tryd.ntmps30
  go_wp2_with fail
  refine (places_any H bh oh m ch _ (unhide HMH) hm24 (fun j hj => (((Kept.refl w).alloc _).alloc _).cell ((unhide HHC) j hj))).mono ?_
  rintro e w1 ⟨rfl, hmap, hk1⟩
  have hb0 := lays_kept hk1 (lays_alloc (lays_new (b := w.heap.size) (o := .cells #[.int .i64 ar, .int .i64 lo, .slice (some ⟨bc, oc, none⟩) m cc] 36) rfl) (.cells #[.int .i64 0, .int .i64 0, .slice none 0 0] 36))
  have hb1 := lays_kept hk1 (lays_new (b := w.heap.size + 1) (w := w.alloc (.cells #[.int .i64 ar, .int .i64 lo, .slice (some ⟨bc, oc, none⟩) m cc] 36)) (o := .cells #[.int .i64 0, .int .i64 0, .slice none 0 0] 36) (by simp))
  have hk01 : Kept w w1 := (((Kept.refl w).alloc _).alloc _).trans hk1
  generalize hB : ((w.alloc (Obj.cells #[Value.int IntKind.i64 ar, Value.int IntKind.i64 lo, Value.slice (some { block := bc, off := oc }) m cc] 36)).alloc (Obj.cells #[Value.int IntKind.i64 0, Value.int IntKind.i64 0, Value.slice none 0 0] 36)).heap.size = B at hmap ⊢
  have hown : w1.ownsMap Tryd.prog 3 (plainElem (H := Unit) Tryd.prog 3) B H.length (placesD H H.length) := hmap
  have g2 := cell_lays hb0 2
  simp only [List.getElem?_toArray, List.getElem?_cons_zero, List.getElem?_cons_succ] at g2
  have g2' : ∀ o1, (w1.alloc o1).cell? ⟨w.heap.size, 2, none⟩ = _ := fun o1 => ((Kept.refl w1).alloc o1).cell g2
  have HB0 := hide hb0
  have HB1 := hide hb1
  have HK01 := hide hk01
  have HMAP := hide hmap
  clear hb0 hb1 hk01 hmap hk1 hB
  go_wp2_with (first
    | (at_len; refine wpList_len_own _ rfl _ 69 rfl 3 3 Tryd.underlying69 _ B H.length _ rfl hown ?_)
    | go_in)
  have hr0 : (w1.alloc (Obj.cells (madeCells #[.int .i64 0, .int .i64 0] (Maps.size (placesD H H.length) * 2)) 38)).ownsRow w1.heap.size 38 2 (.slice (some ⟨w1.heap.size, 0, none⟩) 0 (Maps.size (placesD H H.length))) 0 (flatOps []) := World.ownsRow_made w1 _ _ (Nat.le_refl _) (by unfold maxLen; omega) (made_size _)
  have HR0 := hide hr0
  clear hr0
  go_loopw [6, 19] (fun s6 s19 wr => ∃ k : Nat, k ≤ m ∧ s19 = .int .i64 k ∧ Hid (wr.ownsRow w1.heap.size 38 2 s6 (placeS H k) (flatOps (pick H (fun k => moveS H (c.getD k (0, 0))) k))) ∧ Hid (Kept w1 wr)) (fun _ s19 _ => m - (intOf s19).toNat)
  case atStart => exact ⟨0, Nat.zero_le _, rfl, HR0, (Kept.refl _).alloc _⟩
  case round =>
    obtain ⟨k, hkm, rfl, HOW, HKr⟩ := hrel
    clear g2 g2' HR0 hmk
    by_cases hlt : k < m
    · obtain ⟨⟨kd, a⟩, hx⟩ : ∃ x, c[k]? = some x := ⟨_, List.getElem?_eq_getElem (by rw [← unhide HML]; exact hlt)⟩
      obtain ⟨x0, x1⟩ := (unhide HCELL) k _ hx
      have y0 := ((unhide HK01).trans (unhide HKr)).cell x0
      have y1 := ((unhide HK01).trans (unhide HKr)).cell x1
      simp only at y0 y1
      have hma : MapAt (wr.alloc (.cells #[.int .i64 kd, .int .i64 a] 38)) B H := (unhide HMAP).kept ((unhide HKr).alloc _)
      obtain ⟨vk, psk, hlook, _⟩ := World.ownsMap.look_ok (t := 69) (e := 3) hma lawInt Tryd.underlying69 (zeroInt _) (plainElem_int Tryd.underlying3 (by decide)) (key := .int .i64 k) (keyOf_int_mk Tryd.underlying3 (WalkArith.wf_i64 (by omega)))
      rw [placesD_has] at hlook
      have hcd : c.getD k (0, 0) = (kd, a) := by simp [List.getD, hx]
      by_cases hs : 0 ≤ H.getD k 0
      · rw [decide_eq_true (⟨by have := unhide HMH; omega, hs⟩ : k < H.length ∧ 0 ≤ H.getD k 0)] at hlook
        have hp1 : placeS H (k + 1) = placeS H k + 1 := placeS_succ hs
        have hp2 : pick H (fun k => moveS H (c.getD k (0, 0))) (k + 1) = pick H (fun k => moveS H (c.getD k (0, 0))) k ++ [moveS H (kd, a)] := by
          conv => lhs; unfold pick
          rw [if_pos hs, hcd]
        have hple := placeS_le H k
        have HP1 := hide hp1
        by_cases hjz : kd = 9 ∨ kd = 10
        · obtain ⟨t, ht, htm, hts⟩ := (unhide HJ) k _ hx hs hjz
          simp only at ht
          subst ht
          obtain ⟨c2, hlook2, hat2, _⟩ := World.ownsMap.lookup_int (t := 69) (e := 3) (q := .i64) hma lawInt Tryd.underlying69 Tryd.underlying3 (zeroInt _) (key := .int .i64 t) (keyOf_int_mk Tryd.underlying3 (WalkArith.wf_i64 (by have := unhide HML; omega)))
          rw [placesD_at H t hts _ H.length (by have := unhide HML; have := unhide HMH; omega)] at hat2
          obtain rfl : c2 = (placeS H t : Nat) := by simpa using hat2.symm
          have hmv : moveS H (kd, (t : Int)) = (kd, ((placeS H t : Nat) : Int)) := by unfold moveS; rw [if_pos hjz]; simp
          rw [hmv, ] at hp2
          have hfl := congrArg flatOps hp2
          rw [flatOps_snoc] at hfl
          have HFL := hide hfl
          have hown6 := (unhide HOW)
          clear hp1 hp2 hfl hat2 hma hcd hx x0 x1 hmv hts hs
          generalize placeS H t = pt at *
          rcases hjz with rfl | rfl
          all_goals go_wp2_with (at_builtin; refine wpList_append_own _ rfl _ _ 34 rfl w1.heap.size 38 i0 (.agg #[.int .i64 0, .int .i64 0]) 2 16 Tryd.underlying34 hi0 hz0 hz1 hz2 rfl (by decide) _ _ _ rfl ((hown6.alloc _).alloc _) ⟨wr.heap.size + 1, 0, none⟩ 1 1 [.int .i64 _, .int .i64 (pt : Int)] rfl rfl (two_new _ _ _ _ _ (by simp)) (two_int _ _) (by unfold maxLen; omega) (by omega) (by have := (unhide HKr).size; simp; omega) ?_; intro v' w2 hown' hgrow _)
          all_goals have HK2 := hide (Below.grown (((unhide HKr).alloc _).alloc _) hgrow (by have := (unhide HKr).size; simp; omega) (trow_block hown6))
          all_goals have HO2 := hide hown'
          all_goals clear hgrow hown' hown6 hlook hlook2
          all_goals go_roundw
          case rel => exact ⟨k + 1, by omega, by go_num, by rw [unhide HP1, unhide HFL]; exact HO2, HK2⟩
          case measure => simp [intOf]; omega
          case rel => exact ⟨k + 1, by omega, by go_num, by rw [unhide HP1, unhide HFL]; exact HO2, HK2⟩
          case measure => simp [intOf]; omega
        · have h9 : (kd == 9) = false := by rw [beq_eq_false_iff_ne]; intro e; exact hjz (.inl e)
          have h10 : (kd == 10) = false := by rw [beq_eq_false_iff_ne]; intro e; exact hjz (.inr e)
          have hmv : moveS H (kd, a) = (kd, a) := by unfold moveS; rw [if_neg hjz]
          rw [hmv] at hp2
          have hfl := congrArg flatOps hp2
          rw [flatOps_snoc] at hfl
          have HFL := hide hfl
          have hown6 := (unhide HOW)
          clear hp1 hp2 hfl hma hcd hx x0 x1 hmv hs hjz
          go_wp2_with (at_builtin; refine wpList_append_own _ rfl _ _ 34 rfl w1.heap.size 38 i0 (.agg #[.int .i64 0, .int .i64 0]) 2 16 Tryd.underlying34 hi0 hz0 hz1 hz2 rfl (by decide) _ _ _ rfl ((hown6.alloc _).alloc _) ⟨wr.heap.size + 1, 0, none⟩ 1 1 [.int .i64 kd, .int .i64 a] rfl rfl (two_new _ _ _ _ _ (by simp)) (two_int _ _) (by unfold maxLen; omega) (by omega) (by have := (unhide HKr).size; simp; omega) ?_; intro v' w2 hown' hgrow _)
          have HK2 := hide (Below.grown (((unhide HKr).alloc _).alloc _) hgrow (by have := (unhide HKr).size; simp; omega) (trow_block hown6))
          have HO2 := hide hown'
          clear hgrow hown' hown6 hlook
          go_roundw
          case rel => exact ⟨k + 1, by omega, by go_num, by rw [unhide HP1, unhide HFL]; exact HO2, HK2⟩
          case measure => simp [intOf]; omega
      · rw [decide_eq_false (fun h => hs h.2)] at hlook
        have hp1 : placeS H (k + 1) = placeS H k := by
          conv => lhs; unfold placeS
          rw [if_neg hs]
        have hp2 : pick H (fun k => moveS H (c.getD k (0, 0))) (k + 1) = pick H (fun k => moveS H (c.getD k (0, 0))) k := by
          conv => lhs; unfold pick
          rw [if_neg hs]
        have HP1 := hide hp1
        have HP2 := hide hp2
        have HO2 := hide ((unhide HOW).alloc (.cells #[.int .i64 kd, .int .i64 a] 38))
        have HK2 := hide ((unhide HKr).alloc (.cells #[.int .i64 kd, .int .i64 a] 38))
        clear hp1 hp2 hma hcd hx x0 x1 hs
        go_wp2
        go_roundw
        case rel => exact ⟨k + 1, by omega, by go_num, by rw [unhide HP1, unhide HP2]; exact HO2, HK2⟩
        case measure => simp [intOf]; omega
    · have hke : k = H.length := by have := unhide HMH; omega
      have hO := unhide HOW
      rw [hke] at hO
      have hlw : w.heap.size + 1 < w1.heap.size := (Array.getElem?_eq_some_iff.1 (unhide HB1)).1
      have hcode : ∀ u0 u1 u2, CodeNew w1.heap.size (((wr.setCell ⟨w.heap.size + 1, 0, none⟩ u0).setCell ⟨w.heap.size + 1, 1, none⟩ u1).setCell ⟨w.heap.size + 1, 2, none⟩ u2) _ (trimC H c) := fun u0 u1 u2 =>
        codeAt_row (c := trimC H c) (ownsRow_setCell_below (ownsRow_setCell_below (ownsRow_setCell_below hO hlw u0) hlw u1) hlw u2) (trimC_len H c).symm (by rw [trimC_len]; have := placeS_le H H.length; have := unhide HMH; omega)
      have hr0 := lays_kept (unhide HKr) (unhide HB0)
      have hr1 := lays_kept (unhide HKr) (unhide HB1)
      have f0 := cell_lays hr0 0
      have f1 := cell_lays hr0 1
      have e0 := cell_lays hr1 0
      have e1 := cell_lays hr1 1
      have e2 := cell_lays hr1 2
      have z0 := frozen_lays hr1 0
      have z1 := frozen_lays hr1 1
      have z2 := frozen_lays hr1 2
      simp only [List.getElem?_toArray, List.getElem?_cons_zero, List.getElem?_cons_succ] at f0 f1 e0 e1 e2
      obtain ⟨oa6, cp6, he6, _, _⟩ := hcode undef undef undef
      subst he6
      have HCO := hide hcode
      have HR1 := hide hr1
      clear hke hO hcode hr0 hr1
      go_wp2
      have hl3 := lays_set (lays_set (lays_set (unhide HR1) 0 (.int .i64 ar)) 1 (.int .i64 lo)) 2 (.slice oa6 (trimC H c).length cp6)
      have k0 := cell_lays hl3 0
      have k1 := cell_lays hl3 1
      have k2 := cell_lays hl3 2
      simp only [Array.setIfInBounds, List.size_toArray, List.length_cons, List.length_nil] at k0 k1 k2
      refine bodyPost_ret (v := .agg #[.int .i64 ar, .int .i64 lo, .slice oa6 (trimC H c).length cp6]) (by simp [results, Tryd.results30, go_sem, k0, k1, k2]) rfl ?_
      exact ⟨_, rfl, ((unhide HCO) _ _ _).mono (unhide HK01).size, ((((unhide HK01).trans (unhide HKr)).setCell (p := ⟨w.heap.size + 1, 0, none⟩) (Nat.le_succ _) _).setCell (p := ⟨w.heap.size + 1, 1, none⟩) (Nat.le_succ _) _).setCell (p := ⟨w.heap.size + 1, 2, none⟩) (Nat.le_succ _) _⟩
open Go.RowKit
theorem hgtS_E {p : List Fn} {k : Nat} (h : chkS p k = 0) : (hgtS p k).2 = hgtE p k := by
  unfold hgtS hgtE codeOf
  rw [if_pos h, Int.toNat_natCast]
  cases heightsS p (p.getD k Fn.zero).code <;> rfl
theorem progCheck_many (oa : Option Addr) (n cap : Nat) (w : World) (h : 5 < (n : Int)) :
    Calls Tryd.prog 11 #[.slice oa n cap] w fun e w' => e = .returned (.int .i64 2) ∧ Kept w w' := by
  go_enter Tryd.func11, Tryd.ntmps11
  go_wp2
  go_ret
  exact ⟨rfl, Kept.refl _⟩
theorem progCheck_none (oa : Option Addr) (cap : Nat) (w : World) :
    Calls Tryd.prog 11 #[.slice oa 0 cap] w fun e w' => e = .returned (.int .i64 5) ∧ Kept w w' := by
  go_enter Tryd.func11, Tryd.ntmps11
  go_wp2
  go_ret
  exact ⟨rfl, Kept.refl _⟩
theorem progCheck_args (b o n cap : Nat) (ar : Int) (w : World) (h : ¬ 5 < (n : Int)) (h0 : ((n : Int) == 0) = false) (hn : 0 < n) (c0 : w.cell? ⟨b, o, none⟩ = some (.int .i64 ar)) (ha : (ar != 0) = true) :
    Calls Tryd.prog 11 #[.slice (some ⟨b, o, none⟩) n cap] w fun e w' => e = .returned (.int .i64 1) ∧ Kept w w' := by
  go_enter Tryd.func11, Tryd.ntmps11
  go_wp2
  go_ret
  exact ⟨rfl, Kept.refl _⟩
theorem progCheck_go (p : List Fn) (b o n cap : Nat) (w : World) (hp : ProgAt w (.slice (some ⟨b, o, none⟩) n cap) p) (hk : KindsAt w) (hl : n = p.length) (h : ¬ 5 < (n : Int)) (h0 : ((n : Int) == 0) = false) (hn : 0 < n) (c0 : w.cell? ⟨b, o, none⟩ = some (.int .i64 0)) (rr : Int) (hrr : (if firstS (fun k => chkS p k) 0 p.length = 0 then firstS (hgtE p) 0 p.length else firstS (fun k => chkS p k) 0 p.length) = rr) :
    Calls Tryd.prog 11 #[.slice (some ⟨b, o, none⟩) n cap] w fun e w' => e = .returned (.int .i64 rr) ∧ Kept w w' := by
  have HRR := hide hrr
  clear hrr
  have HP := hide hp
  have HK := hide hk
  have HL := hide hl
  clear hp hk hl
  go_enter Tryd.func11, Tryd.ntmps11
  go_wp2
  go_loopw [21] (fun s wr => ∃ k : Nat, k ≤ n ∧ s = .int .i64 k ∧ Hid (firstS (fun k => chkS p k) k (n - k) = firstS (fun k => chkS p k) 0 p.length) ∧ Hid (Kept w wr)) (fun s _ => n - (intOf s).toNat)
  case atStart => exact ⟨0, Nat.zero_le _, rfl, by have := unhide HL; subst this; rfl, Kept.refl _⟩
  case round =>
    obtain ⟨k, hkm, rfl, HO, HKr⟩ := hrel
    by_cases hlt : k < n
    · have hst := firstS_step (e := fun k => chkS p k) hlt
      have HST := hide hst
      have hck := check_any p (.slice (some ⟨b, o, none⟩) n cap) k wr ((unhide HP).kept (unhide HKr)) ((unhide HK).kept (unhide HKr))
      have HCK := hide hck
      clear hst hck
      go_wp2_with fail
      refine (unhide HCK).mono ?_
      clear HCK
      rintro e w2 ⟨rfl, hk2⟩
      have HK2 := hide ((unhide HKr).trans hk2)
      clear hk2
      by_cases hz : chkS p k = 0
      · have hst := unhide HST
        simp only [hz, if_true] at hst
        have HS2 := hide (hst.symm.trans (unhide HO))
        rw [hz]
        clear hst hz HST HO
        go_wp2
        go_roundw
        case rel => exact ⟨k + 1, by omega, by go_num, HS2, HK2⟩
        case measure => simp [intOf]; omega
      · have hst := unhide HST
        simp only [hz, if_false] at hst
        have hs2 := hst.symm.trans (unhide HO)
        have hz' : (chkS p k != 0) = true := by rw [bne_iff_ne]; exact hz
        generalize chkS p k = r at *
        have HS2 := hide hs2
        have HZ := hide hz
        clear hst hz HST HO hs2
        go_wp2
        go_ret
        have hrr := unhide HRR
        rw [← unhide HS2, if_neg (unhide HZ)] at hrr
        exact ⟨by rw [← hrr]; rfl, unhide HK2⟩
    · have hf0 : firstS (fun k => chkS p k) 0 p.length = 0 := by
        rw [← unhide HO, show n - k = 0 by omega]
        rfl
      have HF := hide hf0
      clear hf0 HO
      go_wp2
      go_loopw [33] (fun s wq => ∃ k : Nat, k ≤ n ∧ s = .int .i64 k ∧ Hid (firstS (hgtE p) k (n - k) = firstS (hgtE p) 0 p.length) ∧ Hid (Kept w wq)) (fun s _ => n - (intOf s).toNat)
      case atStart => exact ⟨0, Nat.zero_le _, rfl, by have := unhide HL; subst this; rfl, HKr⟩
      case round =>
        obtain ⟨k, hkm, rfl, HO, HKq⟩ := hrel
        by_cases hlt : k < n
        · have hst := firstS_step (e := hgtE p) hlt
          have hz0 : chkS p k = 0 := firstS_zero (unhide HF) k (by omega) (by have := unhide HL; omega)
          have hge := hgtS_E hz0
          have HST := hide hst
          have hck := heights_any p (.slice (some ⟨b, o, none⟩) n cap) k _ ((unhide HP).kept (unhide HKq)) ((unhide HK).kept (unhide HKq))
          have HCK := hide hck
          have HGE := hide hge
          clear hst hck hge hz0
          go_wp2_with fail
          refine (unhide HCK).mono ?_
          clear HCK
          rintro e w2 ⟨v2, rfl, _, hk2⟩
          have HK2 := hide ((unhide HKq).trans hk2)
          clear hk2
          rw [unhide HGE]
          by_cases hz : hgtE p k = 0
          · have hst := unhide HST
            simp only [hz, if_true] at hst
            have HS2 := hide (hst.symm.trans (unhide HO))
            rw [hz]
            clear hst hz HST HO
            go_wp2
            go_roundw
            case rel => exact ⟨k + 1, by omega, by go_num, HS2, HK2⟩
            case measure => simp [intOf]; omega
          · have hst := unhide HST
            simp only [hz, if_false] at hst
            have hs2 := hst.symm.trans (unhide HO)
            have hz' : (hgtE p k != 0) = true := by rw [bne_iff_ne]; exact hz
            generalize hgtE p k = r at *
            have HS2 := hide hs2
            clear hst hz HST HO hs2
            go_wp2
            go_ret
            have hrr := unhide HRR
            rw [if_pos (unhide HF), ← unhide HS2] at hrr
            exact ⟨by rw [← hrr]; rfl, unhide HK2⟩
        · have hf1 : firstS (hgtE p) 0 p.length = 0 := by
            rw [← unhide HO, show n - k = 0 by omega]
            rfl
          have HF1 := hide hf1
          clear hf1 HO
          go_wp2
          go_ret
          have hrr := unhide HRR
          rw [if_pos (unhide HF), unhide HF1] at hrr
          exact ⟨by rw [← hrr]; rfl, unhide HKq⟩
theorem progCheck_any (p : List Fn) (v : Value) (w : World) (hp : ProgAt w v p) (hk : KindsAt w) :
    Calls Tryd.prog 11 #[v] w fun e w' => e = .returned (.int .i64 (progS p)) ∧ Kept w w' := by
  obtain ⟨oa, cap, rfl, hl, hi⟩ := id hp
  unfold progS
  by_cases h5 : 5 < p.length
  · rw [if_pos h5]
    exact progCheck_many oa p.length cap w (by omega)
  · rw [if_neg h5]
    by_cases h0 : p.length = 0
    · rw [if_pos h0, h0]
      exact progCheck_none oa cap w
    · rw [if_neg h0]
      have h0' : ((p.length : Int) == 0) = false := by rw [beq_eq_false_iff_ne]; omega
      obtain ⟨b, o, cv, rfl, c0, c1, c2, hc⟩ := hi 0 _ (getD_of_lt p 0 Fn.zero (by omega))
      simp only [Nat.zero_mul, Nat.add_zero] at c0
      by_cases ha : (p.getD 0 Fn.zero).args = 0
      · rw [if_neg (not_not_intro ha)]
        rw [ha] at c0
        exact progCheck_go p b o p.length cap w hp hk rfl (by omega) h0' (by omega) c0 _ rfl
      · rw [if_pos ha]
        exact progCheck_args b o p.length cap _ w (by omega) h0' (by omega) c0 (by rw [bne_iff_ne]; exact ha)
theorem progCheck_is (p : List Fn) (v : Value) (r : Int) (w : World) (hp : ProgAt w v p) (hk : KindsAt w) (h : progS p = r) :
    Calls Tryd.prog 11 #[v] w fun e w' => e = .returned (.int .i64 r) ∧ Kept w w' := by
  have := progCheck_any p v w hp hk
  rw [h] at this
  exact this
def tfS (p : List Fn) (f : Int) : Fn × Int := if (hgtS p f).2 = 0 then (trimF p f.toNat, 0) else (Fn.zero, (hgtS p f).2)
def TfPost (g : Fn) (er : Int) (w : World) (e : Ending) (w' : World) : Prop :=
  ∃ cv, e = .returned (.tuple #[.agg #[.int .i64 g.args, .int .i64 g.locals, cv], .int .i64 er]) ∧ CodeNew w.heap.size w' cv g.code ∧ Kept w w'
theorem CodeNew.nil (N : Nat) (w : World) : CodeNew N w (.slice none 0 0) [] := ⟨none, 0, rfl, by simp, fun i x h => by simp at h⟩
theorem jumpsIn_of {p : List Fn} {g : Fn} {H : List Int} (hc : Cons p g.code H) (hr : ∀ x, x ∈ g.code → opS p g x = 0) : JumpsIn H g.code := by
  intro k x hx hs hj
  have hk : k < g.code.length := (List.getElem?_eq_some_iff.1 hx).1
  obtain ⟨_, _, hm⟩ := opS_kind (hr x (List.mem_of_getElem? hx))
  have ho : opd x.1.toNat = 3 := by rcases hj with e | e <;> rw [e] <;> rfl
  rw [ho] at hm
  have hx2 := ixB_iff.1 (show ixB x.2 g.code.length = true from hm)
  have hin : x.2.toNat ∈ nexts x k := by
    unfold nexts
    rcases hj with e | e
    · rw [if_neg (by omega), if_pos e]; simp
    · rw [if_neg (by omega), if_neg (by omega), if_pos e]; simp
  obtain ⟨s1, s2⟩ := next_stays hc ⟨g, rfl, hr⟩ hk hs hx hin
  exact ⟨x.2.toNat, by omega, s1, s2⟩
theorem trimFunc_bad (p : List Fn) (v : Value) (f : Int) (w : World) (hp : ProgAt w v p) (hk : KindsAt w) (hz : (hgtS p f).2 ≠ 0) :
    Calls Tryd.prog 15 #[v, .int .i64 f] w fun e w' => TfPost Fn.zero (hgtS p f).2 w e w' := by
  obtain ⟨oa, cap, rfl, _, _⟩ := id hp
  have hz' : ((hgtS p f).2 != 0) = true := by rw [bne_iff_ne]; exact hz
  have hha := heights_any p _ f (w.alloc (.cells #[.int .i64 0, .int .i64 0, .slice none 0 0] 36)) (hp.kept ((Kept.refl w).alloc _)) (hk.kept ((Kept.refl w).alloc _))
  unfold HgtPost at hha
  generalize (hgtS p f).2 = r at *
  generalize (hgtS p f).1 = l at *
  have HHA := hide hha
  clear hp hk hz hha
  go_enter Tryd.func15, Tryd.ntmps15
  go_wp2_with fail
  refine (unhide HHA).mono ?_
  rintro e w1 ⟨u1, rfl, _, hk1⟩
  have l1 := lays_kept hk1 (lays_new (b := w.heap.size) (o := .cells #[.int .i64 0, .int .i64 0, .slice none 0 0] 36) rfl)
  have e0 := cell_lays l1 0
  have e1 := cell_lays l1 1
  have e2 := cell_lays l1 2
  have z0 := frozen_lays l1 0
  have z1 := frozen_lays l1 1
  have z2 := frozen_lays l1 2
  simp only [List.getElem?_toArray, List.getElem?_cons_zero, List.getElem?_cons_succ] at e0 e1 e2
  have H1 := hide (((Kept.refl w).alloc _).trans hk1)
  have L1 := hide l1
  clear hk1 HHA l1
  go_wp2
  have hl3 := lays_set (lays_set (lays_set (unhide L1) 0 (.int .i64 0)) 1 (.int .i64 0)) 2 (.slice none 0 0)
  have k0 := cell_lays hl3 0
  have k1 := cell_lays hl3 1
  have k2 := cell_lays hl3 2
  simp only [Array.setIfInBounds, List.size_toArray, List.length_cons, List.length_nil] at k0 k1 k2
  refine bodyPost_ret (v := .tuple #[.agg #[.int .i64 0, .int .i64 0, .slice none 0 0], .int .i64 r]) (by simp [results, Tryd.results15, go_sem, k0, k1, k2]) rfl ?_
  exact ⟨.slice none 0 0, rfl, CodeNew.nil _ _, (((unhide H1).setCell (p := ⟨w.heap.size, 0, none⟩) (Nat.le_refl _) _).setCell (p := ⟨w.heap.size, 1, none⟩) (Nat.le_refl _) _).setCell (p := ⟨w.heap.size, 2, none⟩) (Nat.le_refl _) _⟩
theorem trimFunc_go (p : List Fn) (i b o n cap oc m cc bc : Nat) (H : List Int) (g : Fn) (w : World) (hp : ProgAt w (.slice (some ⟨b, o, none⟩) n cap) p) (hk : KindsAt w) (hi : i < n)
    (c0 : w.cell? ⟨b, o + i * 3, none⟩ = some (.int .i64 g.args)) (c1 : w.cell? ⟨b, o + i * 3 + 1, none⟩ = some (.int .i64 g.locals)) (c2 : w.cell? ⟨b, o + i * 3 + 2, none⟩ = some (.slice (some ⟨bc, oc, none⟩) m cc))
    (hc : CodeAt w (.slice (some ⟨bc, oc, none⟩) m cc) g.code) (hml : m = g.code.length) (hm24 : m ≤ 24) (hm0 : 0 < m) (hH : hgtS p i = (H, 0)) (hHl : m = H.length) (hj : JumpsIn H g.code) :
    Calls Tryd.prog 15 #[.slice (some ⟨b, o, none⟩) n cap, .int .i64 i] w fun e w' => TfPost ⟨g.args, g.locals, trimC H g.code⟩ 0 w e w' := by
  have hha := heights_any p _ i (w.alloc (.cells #[.int .i64 0, .int .i64 0, .slice none 0 0] 36)) (hp.kept ((Kept.refl w).alloc _)) (hk.kept ((Kept.refl w).alloc _))
  unfold HgtPost at hha
  rw [hH] at hha
  have HHA := hide hha
  have C0 := hide c0
  have C1 := hide c1
  have C2 := hide c2
  have HC := hide hc
  have HML := hide hml
  have HHL := hide hHl
  have HJ := hide hj
  clear hp hk c0 c1 c2 hc hml hH hHl hj hha
  go_enter Tryd.func15, Tryd.ntmps15
  go_wp2_with fail
  refine (unhide HHA).mono ?_
  rintro e w1 ⟨u1, rfl, hu1, hk1⟩
  obtain ⟨bh, oh, ch, rfl, _⟩ := hu1.opened (by have := unhide HHL; omega)
  rw [← unhide HHL] at hu1 ⊢
  have l1 := lays_kept hk1 (lays_new (b := w.heap.size) (o := .cells #[.int .i64 0, .int .i64 0, .slice none 0 0] 36) rfl)
  have hk01 := ((Kept.refl w).alloc _).trans hk1
  have d0 := hk01.cell (unhide C0)
  have d1 := hk01.cell (unhide C1)
  have d2 := hk01.cell (unhide C2)
  have htr := trimmed_go H g.code g.args g.locals bc oc m cc bh oh ch w1 ((unhide HC).kept hk01) hu1 (unhide HML) (unhide HHL) hm24 (unhide HJ)
  have HTR := hide htr
  have H1 := hide hk01
  have L1 := hide l1
  clear hk1 HHA l1 htr hu1 hk01
  go_wp2_with fail
  refine (unhide HTR).mono ?_
  rintro e w2 ⟨cv, rfl, hcv, hk2⟩
  have l2 := lays_kept hk2 (unhide L1)
  have e0 := cell_lays l2 0
  have e1 := cell_lays l2 1
  have e2 := cell_lays l2 2
  have z0 := frozen_lays l2 0
  have z1 := frozen_lays l2 1
  have z2 := frozen_lays l2 2
  simp only [List.getElem?_toArray, List.getElem?_cons_zero, List.getElem?_cons_succ] at e0 e1 e2
  have H2 := hide ((unhide H1).trans hk2)
  have L2 := hide l2
  have hsz : w.heap.size < w1.heap.size := (Array.getElem?_eq_some_iff.1 (unhide L1)).1
  obtain ⟨oa6, cp6, he6, _, _⟩ := id hcv
  subst he6
  have HCV := hide hcv
  clear hk2 HTR l2 hcv
  go_wp2
  have hl3 := lays_set (lays_set (lays_set (unhide L2) 0 (.int .i64 g.args)) 1 (.int .i64 g.locals)) 2 (.slice oa6 (trimC H g.code).length cp6)
  have k0 := cell_lays hl3 0
  have k1 := cell_lays hl3 1
  have k2 := cell_lays hl3 2
  simp only [Array.setIfInBounds, List.size_toArray, List.length_cons, List.length_nil] at k0 k1 k2
  refine bodyPost_ret (v := .tuple #[.agg #[.int .i64 g.args, .int .i64 g.locals, .slice oa6 (trimC H g.code).length cp6], .int .i64 0]) (by simp [results, Tryd.results15, go_sem, k0, k1, k2]) rfl ?_
  refine ⟨_, rfl, ?_, (((unhide H2).setCell (p := ⟨w.heap.size, 0, none⟩) (Nat.le_refl _) _).setCell (p := ⟨w.heap.size, 1, none⟩) (Nat.le_refl _) _).setCell (p := ⟨w.heap.size, 2, none⟩) (Nat.le_refl _) _⟩
  refine CodeNew.mono (N := w1.heap.size) ((unhide HCV).keptX hsz ?_) (Nat.le_of_lt hsz)
  exact (((KeptX.refl w.heap.size _).setCell (p := ⟨w.heap.size, 0, none⟩) (.inl rfl) _).setCell (p := ⟨w.heap.size, 1, none⟩) (.inl rfl) _).setCell (p := ⟨w.heap.size, 2, none⟩) (.inl rfl) _
theorem hgtS_right {p : List Fn} {f : Int} (h : (hgtS p f).2 = 0) : ∃ i : Nat, f = i ∧ chkS p i = 0 ∧ heightsS p (codeOf p i) = some (hgtL p i) ∧ hgtS p f = (hgtL p i, 0) := by
  unfold hgtS at h ⊢
  split at h
  · rename_i hz
    obtain ⟨i, rfl, _⟩ := chkS_zero hz
    rw [if_pos hz] at *
    rw [Int.toNat_natCast] at *
    refine ⟨i, rfl, hz, ?_⟩
    unfold hgtL codeOf
    cases hh : heightsS p (p.getD i Fn.zero).code with
    | none => rw [hh] at h; cases h
    | some H => exact ⟨rfl, rfl⟩
  · rename_i hz; exact absurd h hz
theorem trimFunc_any (p : List Fn) (v : Value) (f : Int) (w : World) (hp : ProgAt w v p) (hk : KindsAt w) :
    Calls Tryd.prog 15 #[v, .int .i64 f] w fun e w' => TfPost (tfS p f).1 (tfS p f).2 w e w' := by
  by_cases hz : (hgtS p f).2 = 0
  · obtain ⟨i, rfl, hck, hh, hg⟩ := hgtS_right hz
    have ht : tfS p i = (trimF p i, 0) := by unfold tfS; rw [if_pos hz, Int.toNat_natCast]
    rw [ht]
    obtain ⟨i', hi0, hi, hm, hr, hops⟩ := chkS_zero hck
    obtain rfl : i = i' := by omega
    have hR : Right p (codeOf p i) := ⟨p.getD i Fn.zero, rfl, opsS_all hops⟩
    obtain ⟨hcons, _⟩ := heightsS_ok hR hh
    have hl : (hgtL p i).length = (p.getD i Fn.zero).code.length := hcons.len
    have hpos : 0 < (p.getD i Fn.zero).code.length := hcons.pos
    obtain ⟨oa, cap, rfl, _, hcell⟩ := id hp
    obtain ⟨b, o, cv, rfl, c0, c1, c2, hc⟩ := hcell i _ (getD_of_lt p i Fn.zero hi)
    obtain ⟨oc, cc, rfl, _, hcc⟩ := id hc
    obtain ⟨bc, oc', rfl, _, _⟩ := hcc 0 _ (getD_of_lt _ 0 (0, 0) hpos)
    exact trimFunc_go p i b o _ cap oc' _ cc bc (hgtL p i) _ w hp hk hi c0 c1 c2 hc rfl hm hpos hg hl.symm (jumpsIn_of hcons (opsS_all hops))
  · have ht : tfS p f = (Fn.zero, (hgtS p f).2) := by unfold tfS; rw [if_neg hz]
    rw [ht]
    exact trimFunc_bad p v f w hp hk hz
end Go.Proofs.YtkepbeeioalmbabDoor
