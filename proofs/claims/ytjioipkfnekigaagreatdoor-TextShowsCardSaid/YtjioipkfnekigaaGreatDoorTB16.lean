/- FlowF, FlowG, ProgA, TextO, TextP, TextQ -/
import Derived.Test.YtjioipkfnekigaaGreatDoorTB15
import Derived.Test.YtjioipkfnekigaaGreatDoorTB14
import Derived.Deep.DeepCutAuto
import Derived.Deep.RegionWith
import Derived.JoinedCond
import Derived.Test.YtjioipkfnekigaaGreatDoorTB03
import Derived.Test.YtjioipkfnekigaaGreatDoorTB07
set_option maxRecDepth 100000
set_option maxHeartbeats 8000000
namespace Go.Proofs.YtjioipkfnekigaaGreatDoor
open Go.RowKit Go.Shelf
theorem come_any (p : List Fn) (g : Fn) (oa : Option Addr) (lp cp : Nat) (oc : Option Addr) (lc cc B : Nat) (w0 : World) (hlc : lc = g.code.length) : ∀ (n : Nat) (H : List Int) (at_ : Nat) (h : Int) (w : World),
    ComeAt w0 w p g (.slice oa lp cp) (.slice oc lc cc) B H → 0 ≤ h → h ≤ 8 → unv H < n →
    Calls Tryz.prog 62 #[.agg #[.slice oa lp cp, .slice oc lc cc, .slice (some ⟨B, 0, none⟩) lc lc], .int .i64 at_, .int .i64 h] w fun e w' => ComePost p g n H at_ h B w e w'
  | 0, H, at_, h, w, _, _, _, hu => by omega
  | n + 1, H, at_, h, w, hw, h0, h8, hu => by
    by_cases h1 : lc ≤ at_
    · exact come_beyond n p g oa oc lp cp lc cc B H at_ h w hw.hs hlc (by omega)
    · by_cases h2 : H.getD at_ 0 = -1
      · obtain ⟨x, hx⟩ : ∃ x, g.code[at_]? = some x := ⟨_, List.getElem?_eq_getElem (by omega)⟩
        obtain ⟨oa', cap', he, _, hcell⟩ := id hw.code
        obtain ⟨b', o', rfl, x0, x1⟩ := hcell at_ x hx
        obtain ⟨rfl, -, -⟩ := (by simpa using he : oc = some ⟨b', o', none⟩ ∧ lc = g.code.length ∧ cc = cap')
        exact come_new n p g oa b' o' lp cp lc cc B H at_ h x w0 w hw hlc (by omega) hx x0 x1 h2 h0 h8 hu (fun H' at' h' w' a b c d => come_any p g oa lp cp _ lc cc B w0 hlc n H' at' h' w' a b c d)
      · exact come_seen n p g oa oc lp cp lc cc B H at_ h w hw.hs hlc hw.len (by omega) h2
def IntsAt (w : World) (v : Value) (l : List Int) : Prop :=
  ∃ oa cap, v = .slice oa l.length cap ∧ l.length ≤ 8796093022208 ∧ ∀ i z, l[i]? = some z → ∃ b o, oa = some ⟨b, o, none⟩ ∧ w.cell? ⟨b, o + i, none⟩ = some (.int .i64 z)
theorem IntsAt.kept {w w' : World} (h : Kept w w') {v : Value} {l : List Int} (hl : IntsAt w v l) : IntsAt w' v l := by
  obtain ⟨oa, cap, e, hn, hi⟩ := hl
  refine ⟨oa, cap, e, hn, fun i z hz => ?_⟩
  obtain ⟨b, o, e1, h1⟩ := hi i z hz
  exact ⟨b, o, e1, h.cell h1⟩
theorem IntsAt.nil (w : World) : IntsAt w (.slice none 0 0) [] := ⟨none, 0, rfl, by simp, fun i z h => by simp at h⟩
def hgtS (p : List Fn) (f : Int) : List Int × Int :=
  if chkS p f = 0 then
    match heightsS p (p.getD f.toNat Fn.zero).code with
    | some H => (H, 0)
    | none => ([], 1)
  else ([], chkS p f)
def HgtPost (p : List Fn) (f : Int) (w : World) (e : Ending) (w' : World) : Prop :=
  ∃ v, e = .returned (.tuple #[v, .int .i64 (hgtS p f).2]) ∧ IntsAt w' v (hgtS p f).1 ∧ Kept w w'
theorem heights_bad (p : List Fn) (v : Value) (f : Int) (w : World) (hp : ProgAt w v p) (hk : KindsAt w) (hz : chkS p f ≠ 0) :
    Calls Tryz.prog 40 #[v, .int .i64 f] w fun e w' => HgtPost p f w e w' := by
  obtain ⟨oa, cap, rfl, _, _⟩ := id hp
  have hz' : (chkS p f != 0) = true := by rw [bne_iff_ne]; exact hz
  have hr : hgtS p f = ([], chkS p f) := by unfold hgtS; rw [if_neg hz]
  have HR := hide hr
  have HP := hide hp
  have HK := hide hk
  clear hp hk hz hr
  go_enter Tryz.func40, Tryz.ntmps40
  go_wp2_with fail
  refine (check_any p _ f _ (unhide HP) (unhide HK)).mono ?_
  rintro e w1 ⟨rfl, hk1⟩
  have H1 := hide hk1
  clear hk1
  generalize hc : chkS p f = r at *
  have HC := hide hc
  clear hc
  go_wp2
  go_ret2
  exact ⟨.slice none 0 0, by rw [unhide HR]; rfl, by rw [unhide HR]; exact IntsAt.nil _, unhide H1⟩
theorem infoInt : (Tryz.prog.info? 3).map (fun i => (i.zero, i.size, i.bytes)) = some (some (.int .i64 0), 1, 8) := by kernel_rfl
theorem made_ints (m : Nat) : madeCells #[.int .i64 0] m = ((List.replicate m (0 : Int)).map (fun z => Value.int .i64 z)).toArray := by
  apply Array.ext
  · simp [madeCells]
  · intro i h1 h2
    simp [madeCells, Nat.mod_one]
theorem make_ints (m : Nat) (hm : m ≤ 1000000) (u : World) : (Instr.makeSlice 36 (.int .i64 m) (.int .i64 m)).run Tryz.prog u =
    .ok (.slice (some ⟨u.heap.size, 0, none⟩) m m) (u.alloc (.cells ((List.replicate m (0 : Int)).map (fun z => Value.int .i64 z)).toArray 3)) := by
  obtain ⟨i0, hi, hz0, hz1, hz2⟩ := info_parts infoInt
  have h := run_make (P := Tryz.prog) u 36 3 i0 (.int .i64 0) Tryz.underlying36 hi hz0 .i64 .i64 (m : Int) (m : Int) (by omega) (Int.le_refl _) (by rw [hz2]; omega) (by omega)
  rw [Int.toNat_natCast] at h
  rw [← made_ints]
  simpa [hz1, Value.cells] using h
theorem fill_step {k m : Nat} (h : k < m) : (List.replicate k (-1 : Int) ++ List.replicate (m - k) 0).set k (-1) = List.replicate (k + 1) (-1) ++ List.replicate (m - (k + 1)) 0 := by
  obtain ⟨d, rfl⟩ : ∃ d, m = k + 1 + d := ⟨m - (k + 1), by omega⟩
  rw [List.set_append_right _ _ (by simp)]
  have e1 : k + 1 + d - k = d + 1 := by omega
  have e2 : k + 1 + d - (k + 1) = d := by omega
  rw [e1, e2, List.replicate_succ]
  simp [List.replicate_succ', List.append_assoc]
theorem heights_zero {w : World} {B m : Nat} (h : w.heap[B]? = some (.cells (Array.replicate m (.int .i64 0)) 3)) : HeightsAt w B (List.replicate m 0) := by
  unfold HeightsAt
  rw [h]
  simp
theorem heights_try (p : List Fn) (g : Fn) (i b o cap : Nat) (oc : Option Addr) (m cc : Nat) (w : World) (hk : KindsAt w) (hp : ProgAt w (.slice (some ⟨b, o, none⟩) p.length cap) p) (hi : i < p.length) (hg : p.getD i Fn.zero = g)
    (c2 : w.cell? ⟨b, o + i * 3 + 2, none⟩ = some (.slice oc m cc)) (hc : CodeAt w (.slice oc m cc) g.code) (hml : m = g.code.length) (hm : m ≤ 24) (hz : chkS p i = 0) (hops : opsS p g g.code = 0) :
    Calls Tryz.prog 40 #[.slice (some ⟨b, o, none⟩) p.length cap, .int .i64 i] w fun e w' => HgtPost p i w e w' := by
  have HK := hide hk
  have HP := hide hp
  have HG := hide hg
  have HC := hide hc
  have HL := hide hml
  have HZ := hide hz
  have HO := hide hops
  have C2 := hide c2
  clear hk hp hg hc hml hz hops c2
  go_enter Tryz.func40, Tryz.ntmps40
  go_wp2_with fail
  refine (check_is p _ i 0 _ (unhide HP) (unhide HK) (unhide HZ)).mono ?_
  rintro e w1 ⟨rfl, hk1⟩
  have d2 := hk1.cell (unhide C2)
  have H1 := hide hk1
  clear hk1
  have d2' : ∀ o1, (w1.alloc o1).cell? ⟨b, o + i * 3 + 2, none⟩ = some (.slice oc m cc) := fun o1 => ((Kept.refl w1).alloc o1).cell d2
  have d2'' : ∀ o1 o2, ((w1.alloc o1).alloc o2).cell? ⟨b, o + i * 3 + 2, none⟩ = some (.slice oc m cc) := fun o1 o2 => (((Kept.refl w1).alloc o1).alloc o2).cell d2
  have hmk := make_ints m (by omega)
  go_wp2_with fail
  go_cut [7] (fun s7 wx => ∃ B Bw, s7 = .pointer (some ⟨Bw, 0, none⟩) ∧ Hid (wx.heap[Bw]? = some (.cells #[.slice (some ⟨b, o, none⟩) p.length cap, .slice oc m cc, .slice (some ⟨B, 0, none⟩) m m] 109)) ∧ Hid (HeightsAt wx B (List.replicate m 0)) ∧ w1.heap.size ≤ B ∧ w1.heap.size ≤ Bw ∧ B ≠ Bw ∧ Hid (Kept w1 wx))
  case first =>
    go_region
    all_goals go_wp2_with fail
    all_goals go_meet
    · exact ⟨w1.heap.size, w1.heap.size + 1, rfl, hide (lays_drew (lays_new (by simp))), hide (heights_zero (lays_drew (lays_alloc (lays_new rfl) _))), Nat.le_refl _, Nat.le_succ _, by omega, hide ((((Kept.refl _).alloc _).alloc _).drew)⟩
    · exact ⟨w1.heap.size + 1, w1.heap.size, rfl, hide (lays_drew (lays_alloc (lays_new rfl) _)), hide (heights_zero (lays_drew (lays_new (by simp)))), Nat.le_succ _, Nat.le_refl _, by omega, hide ((((Kept.refl _).alloc _).alloc _).drew)⟩
  case rest =>
    obtain ⟨B, Bw, rfl, L0, HH0, hB, hBw, hne, HK1⟩ := hcut
    have e2 := cell_lays (unhide L0) 2
    simp only [List.getElem?_toArray, List.getElem?_cons_zero, List.getElem?_cons_succ] at e2
    clear d2 d2' d2'' hmk
    go_wp2
    go_loopw [32] (fun s32 wr => ∃ k : Nat, k ≤ m ∧ s32 = .int .i64 k ∧ Hid (wr.heap[Bw]? = some (.cells #[.slice (some ⟨b, o, none⟩) p.length cap, .slice oc m cc, .slice (some ⟨B, 0, none⟩) m m] 109)) ∧ Hid (HeightsAt wr B (List.replicate k (-1) ++ List.replicate (m - k) 0)) ∧ Hid (Kept w1 wr)) (fun s32 _ => m - (intOf s32).toNat)
    case atStart => exact ⟨0, Nat.zero_le _, rfl, L0, by simpa using HH0, HK1⟩
    case round =>
      obtain ⟨k, hkm, rfl, L0r, HHr, HKr⟩ := hrel
      have f0 := cell_lays (unhide L0r) 0
      have f1 := cell_lays (unhide L0r) 1
      have f2 := cell_lays (unhide L0r) 2
      simp only [List.getElem?_toArray, List.getElem?_cons_zero, List.getElem?_cons_succ] at f0 f1 f2
      by_cases hlt : k < m
      · have q := (unhide HHr).cell (k := k) (by simp; omega)
        have q' := (unhide HHr).frozen k
        have hset := (unhide HHr).set k (-1)
        rw [fill_step hlt] at hset
        have HSET := hide hset
        generalize (List.replicate k (-1 : Int) ++ List.replicate (m - k) 0).getD k 0 = z at q
        clear hset
        go_wp2
        go_roundw
        case rel => exact ⟨k + 1, by omega, by go_num, lays_other (unhide L0r) (fun e => hne e.symm) _, unhide HSET, (unhide HKr).setCell (p := ⟨B, k, none⟩) hB _⟩
        case measure => simp [intOf]; omega
      · have hke : k = m := by omega
        have hst : List.replicate k (-1 : Int) ++ List.replicate (m - k) 0 = start g.code := by
          have := unhide HL
          rw [hke, Nat.sub_self]
          simp [start, this]
        have hHs := unhide HHr
        rw [hst] at hHs
        have hu := unv_le (start g.code)
        rw [show (start g.code).length = g.code.length by simp [start]] at hu
        have hright : ∀ x, x ∈ g.code → opS p g x = 0 := fun x hx => opsS_all (unhide HO) x hx
        have hcm := come_any p g (some ⟨b, o, none⟩) p.length cap oc m cc B w1 (unhide HL) (g.code.length + 1) (start g.code) 0 0 wr ⟨(unhide HP).kept (unhide H1), (unhide HC).kept (unhide H1), (unhide HK).kept (unhide H1), hright, by have := unhide HL; omega, unhide HKr, hB, hHs, by simp [start]⟩ (by omega) (by omega) (by omega)
        have HCM := hide hcm
        have HRT := hide hright
        clear hcm hright hu hHs hst hke
        go_wp2_with fail
        refine (unhide HCM).mono ?_
        clear HCM
        rintro e w2 ⟨bb, H2, hc2, rfl, hH2, hk2⟩
        have hgt : hgtS p i = match heightsS p g.code with | some H => (H, 0) | none => ([], 1) := by
          unfold hgtS
          rw [if_pos (unhide HZ), Int.toNat_natCast, unhide HG]
        have hkw : Kept w w2 := (unhide H1).trans (KeptX.kept (unhide HKr) hB hk2)
        have g2 := cell_lays (hk2.lays (fun e => hne e.symm) (unhide L0r)) 2
        simp only [List.getElem?_toArray, List.getElem?_cons_zero, List.getElem?_cons_succ] at g2
        have HGT := hide hgt
        have HKW := hide hkw
        have HC2 := hide hc2
        have HH2 := hide hH2
        clear hgt hkw hc2 hH2 hk2 f0 f1 f2
        have hR : Right p g.code := ⟨g, rfl, unhide HRT⟩
        cases bb with
        | false =>
          have hn : heightsS p g.code = none := by
            cases hh : heightsS p g.code with
            | none => rfl
            | some H =>
              have := (way_heights hR).2 H hh
              unfold wayS at this
              rw [unhide HC2] at this
              cases this
          have HN := hide hn
          clear hn hR
          go_wp2
          go_ret2
          have hgt := unhide HGT
          rw [unhide HN] at hgt
          exact ⟨.slice none 0 0, by rw [hgt]; rfl, by rw [hgt]; exact IntsAt.nil _, unhide HKW⟩
        | true =>
          have hs : heightsS p g.code = some H2 := (way_heights hR).1 H2 (unhide HC2)
          have hlen : H2.length = m := by rw [(heightsS_ok hR hs).1.len]; exact (unhide HL).symm
          have HS := hide hs
          have HLN := hide hlen
          clear hs hlen hR
          go_wp2
          go_ret2
          have hgt := unhide HGT
          rw [unhide HS] at hgt
          refine ⟨.slice (some ⟨B, 0, none⟩) m m, by rw [hgt]; rfl, ?_, unhide HKW⟩
          rw [hgt]
          have hlen := unhide HLN
          refine ⟨_, m, by rw [hlen], by simp only; omega, fun k z hz => ⟨B, 0, rfl, ?_⟩⟩
          have hk := (List.getElem?_eq_some_iff.1 hz).1
          have := (unhide HH2).cell (k := k) hk
          rw [Nat.zero_add, this]
          simp [List.getD, hz]
theorem heights_any (p : List Fn) (v : Value) (f : Int) (w : World) (hp : ProgAt w v p) (hk : KindsAt w) :
    Calls Tryz.prog 40 #[v, .int .i64 f] w fun e w' => HgtPost p f w e w' := by
  by_cases hz : chkS p f = 0
  · obtain ⟨i, rfl, hi, hm, hr, hops⟩ := chkS_zero hz
    obtain ⟨oa, cap, rfl, hl, hcell⟩ := id hp
    obtain ⟨b, o, cv, rfl, c0, c1, c2, hc⟩ := hcell i _ (getD_of_lt p i Fn.zero hi)
    obtain ⟨oc, cc, rfl, _, _⟩ := id hc
    exact heights_try p _ i b o cap oc _ cc w hk hp hi rfl c2 hc rfl hm hz hops
  · exact heights_bad p v f w hp hk hz
open Go.RowKit
theorem hgtS_E {p : List Fn} {k : Nat} (h : chkS p k = 0) : (hgtS p k).2 = hgtE p k := by
  unfold hgtS hgtE codeOf
  rw [if_pos h, Int.toNat_natCast]
  cases heightsS p (p.getD k Fn.zero).code <;> rfl
theorem progCheck_many (oa : Option Addr) (n cap : Nat) (w : World) (h : 5 < (n : Int)) :
    Calls Tryz.prog 17 #[.slice oa n cap] w fun e w' => e = .returned (.int .i64 2) ∧ Kept w w' := by
  go_enter Tryz.func17, Tryz.ntmps17
  go_wp2
  go_ret
  exact ⟨rfl, Kept.refl _⟩
theorem progCheck_none (oa : Option Addr) (cap : Nat) (w : World) :
    Calls Tryz.prog 17 #[.slice oa 0 cap] w fun e w' => e = .returned (.int .i64 5) ∧ Kept w w' := by
  go_enter Tryz.func17, Tryz.ntmps17
  go_wp2
  go_ret
  exact ⟨rfl, Kept.refl _⟩
theorem progCheck_args (b o n cap : Nat) (ar : Int) (w : World) (h : ¬ 5 < (n : Int)) (h0 : ((n : Int) == 0) = false) (hn : 0 < n) (c0 : w.cell? ⟨b, o, none⟩ = some (.int .i64 ar)) (ha : (ar != 0) = true) :
    Calls Tryz.prog 17 #[.slice (some ⟨b, o, none⟩) n cap] w fun e w' => e = .returned (.int .i64 1) ∧ Kept w w' := by
  go_enter Tryz.func17, Tryz.ntmps17
  go_wp2
  go_ret
  exact ⟨rfl, Kept.refl _⟩
theorem progCheck_go (p : List Fn) (b o n cap : Nat) (w : World) (hp : ProgAt w (.slice (some ⟨b, o, none⟩) n cap) p) (hk : KindsAt w) (hl : n = p.length) (h : ¬ 5 < (n : Int)) (h0 : ((n : Int) == 0) = false) (hn : 0 < n) (c0 : w.cell? ⟨b, o, none⟩ = some (.int .i64 0)) (rr : Int) (hrr : (if firstS (fun k => chkS p k) 0 p.length = 0 then firstS (hgtE p) 0 p.length else firstS (fun k => chkS p k) 0 p.length) = rr) :
    Calls Tryz.prog 17 #[.slice (some ⟨b, o, none⟩) n cap] w fun e w' => e = .returned (.int .i64 rr) ∧ Kept w w' := by
  have HRR := hide hrr
  clear hrr
  have HP := hide hp
  have HK := hide hk
  have HL := hide hl
  clear hp hk hl
  go_enter Tryz.func17, Tryz.ntmps17
  go_wp2
  go_loopw [21] (fun s wr => ∃ k : Nat, k ≤ n ∧ s = .int .i64 k ∧ Hid (firstS (fun k => chkS p k) k (n - k) = firstS (fun k => chkS p k) 0 p.length) ∧ Hid (Kept w wr)) (fun s _ => n - (intOf s).toNat)
  case atStart => exact ⟨0, Nat.zero_le _, rfl, by have := unhide HL; subst this; rfl, Kept.refl _⟩
  case round =>
    obtain ⟨k, hkm, rfl, HO, HKr⟩ := hrel
    by_cases hlt : k < n
    · have hst := firstS_step (e := fun k => chkS p k) hlt
      have HST := hide hst
      have hck := check_any p (.slice (some ⟨b, o, none⟩) n cap) k wr ((unhide HP).kept (unhide HKr)) ((unhide HK).kept (unhide HKr))
      have HCK := hide hck
      clear hst hck
      go_wp2_with fail
      refine (unhide HCK).mono ?_
      clear HCK
      rintro e w2 ⟨rfl, hk2⟩
      have HK2 := hide ((unhide HKr).trans hk2)
      clear hk2
      by_cases hz : chkS p k = 0
      · have hst := unhide HST
        simp only [hz, if_true] at hst
        have HS2 := hide (hst.symm.trans (unhide HO))
        rw [hz]
        clear hst hz HST HO
        go_wp2
        go_roundw
        case rel => exact ⟨k + 1, by omega, by go_num, HS2, HK2⟩
        case measure => simp [intOf]; omega
      · have hst := unhide HST
        simp only [hz, if_false] at hst
        have hs2 := hst.symm.trans (unhide HO)
        have hz' : (chkS p k != 0) = true := by rw [bne_iff_ne]; exact hz
        generalize chkS p k = r at *
        have HS2 := hide hs2
        have HZ := hide hz
        clear hst hz HST HO hs2
        go_wp2
        go_ret
        have hrr := unhide HRR
        rw [← unhide HS2, if_neg (unhide HZ)] at hrr
        exact ⟨by rw [← hrr]; rfl, unhide HK2⟩
    · have hf0 : firstS (fun k => chkS p k) 0 p.length = 0 := by
        rw [← unhide HO, show n - k = 0 by omega]
        rfl
      have HF := hide hf0
      clear hf0 HO
      go_wp2
      go_loopw [33] (fun s wq => ∃ k : Nat, k ≤ n ∧ s = .int .i64 k ∧ Hid (firstS (hgtE p) k (n - k) = firstS (hgtE p) 0 p.length) ∧ Hid (Kept w wq)) (fun s _ => n - (intOf s).toNat)
      case atStart => exact ⟨0, Nat.zero_le _, rfl, by have := unhide HL; subst this; rfl, HKr⟩
      case round =>
        obtain ⟨k, hkm, rfl, HO, HKq⟩ := hrel
        by_cases hlt : k < n
        · have hst := firstS_step (e := hgtE p) hlt
          have hz0 : chkS p k = 0 := firstS_zero (unhide HF) k (by omega) (by have := unhide HL; omega)
          have hge := hgtS_E hz0
          have HST := hide hst
          have hck := heights_any p (.slice (some ⟨b, o, none⟩) n cap) k _ ((unhide HP).kept (unhide HKq)) ((unhide HK).kept (unhide HKq))
          have HCK := hide hck
          have HGE := hide hge
          clear hst hck hge hz0
          go_wp2_with fail
          refine (unhide HCK).mono ?_
          clear HCK
          rintro e w2 ⟨v2, rfl, _, hk2⟩
          have HK2 := hide ((unhide HKq).trans hk2)
          clear hk2
          rw [unhide HGE]
          by_cases hz : hgtE p k = 0
          · have hst := unhide HST
            simp only [hz, if_true] at hst
            have HS2 := hide (hst.symm.trans (unhide HO))
            rw [hz]
            clear hst hz HST HO
            go_wp2
            go_roundw
            case rel => exact ⟨k + 1, by omega, by go_num, HS2, HK2⟩
            case measure => simp [intOf]; omega
          · have hst := unhide HST
            simp only [hz, if_false] at hst
            have hs2 := hst.symm.trans (unhide HO)
            have hz' : (hgtE p k != 0) = true := by rw [bne_iff_ne]; exact hz
            generalize hgtE p k = r at *
            have HS2 := hide hs2
            clear hst hz HST HO hs2
            go_wp2
            go_ret
            have hrr := unhide HRR
            rw [if_pos (unhide HF), ← unhide HS2] at hrr
            exact ⟨by rw [← hrr]; rfl, unhide HK2⟩
        · have hf1 : firstS (hgtE p) 0 p.length = 0 := by
            rw [← unhide HO, show n - k = 0 by omega]
            rfl
          have HF1 := hide hf1
          clear hf1 HO
          go_wp2
          go_ret
          have hrr := unhide HRR
          rw [if_pos (unhide HF), unhide HF1] at hrr
          exact ⟨by rw [← hrr]; rfl, unhide HKq⟩
theorem progCheck_any (p : List Fn) (v : Value) (w : World) (hp : ProgAt w v p) (hk : KindsAt w) :
    Calls Tryz.prog 17 #[v] w fun e w' => e = .returned (.int .i64 (progS p)) ∧ Kept w w' := by
  obtain ⟨oa, cap, rfl, hl, hi⟩ := id hp
  unfold progS
  by_cases h5 : 5 < p.length
  · rw [if_pos h5]
    exact progCheck_many oa p.length cap w (by omega)
  · rw [if_neg h5]
    by_cases h0 : p.length = 0
    · rw [if_pos h0, h0]
      exact progCheck_none oa cap w
    · rw [if_neg h0]
      have h0' : ((p.length : Int) == 0) = false := by rw [beq_eq_false_iff_ne]; omega
      obtain ⟨b, o, cv, rfl, c0, c1, c2, hc⟩ := hi 0 _ (getD_of_lt p 0 Fn.zero (by omega))
      simp only [Nat.zero_mul, Nat.add_zero] at c0
      by_cases ha : (p.getD 0 Fn.zero).args = 0
      · rw [if_neg (not_not_intro ha)]
        rw [ha] at c0
        exact progCheck_go p b o p.length cap w hp hk rfl (by omega) h0' (by omega) c0 _ rfl
      · rw [if_pos ha]
        exact progCheck_args b o p.length cap _ w (by omega) h0' (by omega) c0 (by rw [bne_iff_ne]; exact ha)
open Go.RowKit Go.Maps
def readR (l : List UInt8) : List Fn × Int := if l.length ≤ 8192 then match wholeT l with
  | some p => if progS p = 0 then (p, 0) else ([], 1)
  | none => ([], 1) else ([], 2)
def ReadPost (l : List UInt8) (w : World) (e : Ending) (w' : World) : Prop := ∃ oa n cap, e = .returned (.tuple #[.slice oa n cap, .int .i64 (readR l).2]) ∧ n = (readR l).1.length ∧ ProgAt w' (.slice oa n cap) (readR l).1 ∧ Kept w w' ∧ ∃ b m, w.heap.size ≤ b ∧ PrR b m w' (.slice oa n cap) (readR l).1
theorem progNil (w : World) : ProgAt w (.slice none 0 0) [] := ⟨none, 0, rfl, by simp, fun i f h => by simp at h⟩
theorem foldT_size : ∀ (ls : List (List UInt8)) (p p' : List Fn) (k : Nat), foldT p ls = some p' → SizeT p k → SizeT p' (k + ls.length)
  | [], p, p', k, h, hs => by cases h; exact hs
  | l :: ls, p, p', k, h, hs => by
    cases hq : stepT p (splitT 32 l) with
    | none => simp only [foldT, hq] at h; cases h
    | some q =>
      simp only [foldT, hq] at h
      have := foldT_size ls q p' (k + 1) h (stepT_size hq hs)
      rw [List.length_cons, show k + (ls.length + 1) = k + 1 + ls.length by omega]
      exact this
theorem wholeT_size {l : List UInt8} {p : List Fn} (h : wholeT l = some p) (hl : l.length ≤ 8192) : p.length ≤ 8193 := by
  unfold wholeT at h
  cases hq : linesT l with
  | none => rw [hq] at h; cases h
  | some ls =>
    rw [hq] at h
    have h1 := (linesT_len hq hl).1
    have h2 := (foldT_size ls [] p 0 h ⟨by simp, fun f hf => by simp at hf⟩).1
    omega
theorem read_any (w : World) (l : List UInt8) (he : EnvT w) (hk : KindsAt w) : Calls Tryz.prog 8 #[.string ⟨l.toArray⟩] w (ReadPost l w) := by
  have hsz : (ByteArray.mk l.toArray).size = l.length := by simp [ByteArray.size]
  have HNIL : Hid (∀ u, Kept w u → ∃ b m, w.heap.size ≤ b ∧ PrR b m u (.slice none 0 0) []) := hide fun u hu => ⟨_, _, hu.size, PrR.nil _ u (Nat.le_refl _)⟩
  by_cases hl : l.length ≤ 8192
  · have HW := hide (whole_any w l hl he)
    have HPC : Hid (∀ u v p, Kept w u → ProgAt u v p → Calls Tryz.prog 17 #[v] u fun e w' => e = .returned (.int .i64 (progS p)) ∧ Kept u w') := hide fun u v p hu hp => progCheck_any p v u hp (hk.kept hu)
    have hl1 : ¬ (8192 : Int) < (l.length : Int) := by omega
    have HRR : Hid (readR l = match wholeT l with
      | some p => if progS p = 0 then (p, 0) else ([], 1)
      | none => ([], 1)) := hide (by unfold readR; rw [if_pos hl])
    have HWS : Hid (∀ p, wholeT l = some p → p.length ≤ 8193) := hide fun p h => wholeT_size h hl
    generalize (ByteArray.mk l.toArray) = S at *
    generalize l.length = N at *
    clear he hk hl
    go_enter Tryz.func8, Tryz.ntmps8
    go_wp2_with fail
    refine (unhide HW).mono ?_
    intro e w1 hpost
    unfold WholePost at hpost
    cases hwt : wholeT l with
    | none =>
      rw [hwt] at hpost
      obtain ⟨rfl, k1⟩ := hpost
      have HR2 : Hid (readR l = ([], 1)) := hide (by rw [unhide HRR, hwt])
      have HK := hide k1
      clear k1 hwt HW HRR HWS
      go_wp2_with fail
      go_ret2
      unfold ReadPost
      rw [unhide HR2]
      exact ⟨none, 0, 0, rfl, rfl, progNil _, unhide HK, (unhide HNIL) _ (unhide HK)⟩
    | some p =>
      rw [hwt] at hpost
      obtain ⟨v, b, m, rfl, hbw, hpr, k1⟩ := hpost
      have hps := (unhide HWS) p hwt
      have hpa := hpr.prog (by omega)
      obtain ⟨oa, cap, rfl, _⟩ := id hpa
      have HC := hide ((unhide HPC) w1 _ p k1 hpa)
      have HQ := hide (And.intro hpa (And.intro hpr (And.intro k1 hbw)))
      generalize hpl : p.length = pl at *
      have HPL := hide hpl
      by_cases hz : progS p = 0
      · have HR2 : Hid (readR l = (p, 0)) := hide (by rw [unhide HRR, hwt]; simp only [hz, if_true])
        rw [hz] at HC
        clear hpa hpr k1 hwt HW HRR HWS hpl hz hbw
        go_wp2_with fail
        refine (unhide HC).mono ?_
        rintro _ w2 ⟨rfl, k2⟩
        have HK2 := hide k2
        clear k2 HC
        go_wp2_with fail
        go_ret2
        unfold ReadPost
        rw [unhide HR2]
        obtain ⟨q1, q2, q3, q4⟩ := unhide HQ
        have k2 := unhide HK2
        exact ⟨oa, pl, cap, rfl, (unhide HPL).symm, q1.kept k2, q3.trans k2, b, m, q4, q2.kept k2⟩
      · have HR2 : Hid (readR l = ([], 1)) := hide (by rw [unhide HRR, hwt]; simp only [hz, if_false])
        have HZ := hide hz
        generalize progS p = er at *
        have hz2 : (er == 0) = false := by simpa using hz
        clear hpa hpr k1 hwt HW HRR HWS hpl hbw
        go_wp2_with fail
        refine (unhide HC).mono ?_
        rintro _ w2 ⟨rfl, k2⟩
        have HK2 := hide ((unhide HQ).2.2.1.trans k2)
        clear k2 HC
        go_wp2_with fail
        go_ret2
        unfold ReadPost
        rw [unhide HR2]
        exact ⟨none, 0, 0, rfl, rfl, progNil _, unhide HK2, (unhide HNIL) _ (unhide HK2)⟩
  · have HR2 : Hid (readR l = ([], 2)) := hide (by unfold readR; rw [if_neg hl])
    have hl1 : (8192 : Int) < (l.length : Int) := by omega
    generalize (ByteArray.mk l.toArray) = S at *
    generalize l.length = N at *
    clear he hk hl
    go_enter Tryz.func8, Tryz.ntmps8
    go_wp2_with fail
    go_ret2
    unfold ReadPost
    rw [unhide HR2]
    exact ⟨none, 0, 0, rfl, rfl, progNil _, Kept.refl w, (unhide HNIL) _ (Kept.refl w)⟩
theorem parse_app : ∀ (l : List UInt8) (acc v : Nat) (c : UInt8), Lib.parseUint10 acc l = .ok v → Lib.parseUint10 acc (l ++ [c]) = Lib.parseUint10 v [c]
  | [], acc, v, c, h => by
    simp only [Lib.parseUint10, Lib.NumEnd.ok.injEq] at h
    subst h
    rfl
  | x :: l, acc, v, c, h => by
    rw [List.cons_append]
    unfold Lib.parseUint10 at h ⊢
    split at h
    · rename_i h1
      rw [if_pos h1]
      split at h
      · cases h
      · rename_i h2
        rw [if_neg h2]
        split at h
        · cases h
        · rename_i h3
          rw [if_neg h3]
          exact parse_app l _ v c h
    · cases h
theorem digit_nat {d : Nat} (h : d < 10) : (UInt8.ofNat (48 + d)).toNat = 48 + d := by rw [UInt8.toNat_ofNat']; omega
theorem parse_dec (n : Nat) : n < 1000000 → Lib.parseUint10 0 (Lib.decDigits n) = .ok n := by
  induction n using Nat.strongRecOn with
  | ind n ih =>
    intro hn
    unfold Lib.decDigits
    split
    · rename_i h
      unfold Lib.parseUint10
      rw [digit_nat h, if_pos (by omega), if_neg (by omega), if_neg (by omega)]
      simp [Lib.parseUint10]
    · rename_i h
      rw [parse_app _ 0 (n / 10) _ (ih (n / 10) (by omega) (by omega))]
      unfold Lib.parseUint10
      rw [digit_nat (by omega), if_pos (by omega), if_neg (by omega), if_neg (by omega)]
      simp only [Lib.parseUint10, Lib.NumEnd.ok.injEq]
      omega
theorem dec_digits (n : Nat) : ∀ c ∈ Lib.decDigits n, 48 ≤ c.toNat ∧ c.toNat ≤ 57 := by
  induction n using Nat.strongRecOn with
  | ind n ih =>
    unfold Lib.decDigits
    split
    · rename_i h
      intro c hc
      obtain rfl := List.mem_singleton.1 hc
      rw [digit_nat h]
      omega
    · rename_i h
      intro c hc
      rcases List.mem_append.1 hc with hc | hc
      · exact ih (n / 10) (by omega) c hc
      · obtain rfl := List.mem_singleton.1 hc
        rw [digit_nat (by omega)]
        omega
theorem dec_ne (n : Nat) : Lib.decDigits n ≠ [] := by
  unfold Lib.decDigits
  split <;> simp
theorem numT_itoa {n : Int} (h0 : 0 ≤ n) (h1 : n ≤ 999) : numT (Lib.itoa n) = some n := by
  obtain ⟨k, rfl⟩ := Int.eq_ofNat_of_zero_le h0
  have hi : Lib.itoa (k : Int) = Lib.decDigits k := by unfold Lib.itoa; rw [if_neg (by omega), Int.toNat_natCast]
  have ha : Lib.atoiAll (Lib.decDigits k) = .ok (k : Int) := by
    have hp := parse_dec k (by omega)
    have hd := dec_digits k
    have hne := dec_ne k
    cases hq : Lib.decDigits k with
    | nil => exact absurd hq hne
    | cons c r =>
      rw [hq] at hp hd
      have hc := hd c (by simp)
      unfold Lib.atoiAll
      simp only
      rw [if_neg (show ¬ (c.toNat = 43 ∨ c.toNat = 45) by omega)]
      unfold Lib.parseMag
      rw [if_neg (by simp), hp]
      simp only
      rw [if_neg (by omega), if_neg (by omega), if_neg (by omega)]
  unfold numT
  rw [hi, ha]
  simp only
  rw [if_pos ⟨by omega, by have := dec_len k 3 (by omega) (by omega); omega, hi⟩]
theorem numT_back {w : List UInt8} {v : Int} (h : numT w = some v) : Lib.itoa v = w := by
  unfold numT at h
  split at h
  · split at h
    · rename_i q; cases h; exact q.2.2
    · cases h
  · cases h
theorem numsT_back : ∀ {r : List (List UInt8)} {l : List Int}, numsT r = some l → r = l.map Lib.itoa
  | [], l, h => by cases h; rfl
  | y :: r, l, h => by
    unfold numsT at h
    split at h
    · cases h
    · rename_i z hz
      split at h
      · cases h
      · rename_i l' hl
        cases h
        simp [numT_back hz, numsT_back hl]
theorem numsT_itoa : ∀ {l : List Int}, (∀ z ∈ l, 0 ≤ z ∧ z ≤ 999) → numsT (l.map Lib.itoa) = some l
  | [], _ => rfl
  | z :: l, h => by
    have h1 := numT_itoa (h z (by simp)).1 (h z (by simp)).2
    have h2 := numsT_itoa (l := l) (fun y hy => h y (by simp [hy]))
    simp only [List.map_cons, numsT, h1, h2]
theorem tk_nums (k : Nat) : (tkS.getD k ([], 0)).2 ≤ 1 := by
  by_cases h : k < 17
  · revert h; revert k; decide
  · rw [show tkS.getD k ([], 0) = ([], 0) by simp [List.getD, List.getElem?_eq_none (show tkS.length ≤ k by simp [tkS]; omega)]]; simp
theorem kindT_name {wd : List UInt8} {k : Nat} (h : kindT wd = some k) : (tkS.getD k ([], 0)).1 = wd := by
  unfold kindT at h
  rw [List.findIdx?_eq_some_iff_getElem] at h
  obtain ⟨h1, h2, _⟩ := h
  rw [tk_get] at h2
  simpa using h2
theorem step_show {p p' : List Fn} {x : List UInt8} (h : stepT p (splitT 32 x) = some p') : showT p' = showT p ++ (x ++ [10]) := by
  have hj := join_split 32 x
  cases hs : splitT 32 x with
  | nil => exact absurd hs (splitT_ne 32 x)
  | cons wd r =>
    rw [hs] at h hj
    cases hn : numsT r with
    | none => simp only [stepT, hn] at h; cases h
    | some l =>
      simp only [stepT, hn] at h
      have hx : x ++ [10] = lineT wd l := by rw [← hj, numsT_back hn]; rfl
      rw [hx]
      by_cases hw : wd = [102, 117, 110, 99]
      · rw [if_pos hw] at h
        by_cases h2 : l.length = 2
        · rw [if_pos h2] at h
          cases h
          match l, h2 with
          | [a, b], _ => simp [showT, fnT, hw]
        · rw [if_neg h2] at h; cases h
      · rw [if_neg hw] at h
        by_cases hp : p = []
        · rw [if_pos hp] at h; cases h
        · rw [if_neg hp] at h
          cases ho : opOfT wd l with
          | none => rw [ho] at h; cases h
          | some y =>
            rw [ho] at h
            cases h
            have hy : opT y = lineT wd l := by
              unfold opOfT at ho
              cases hk : kindT wd with
              | none => rw [hk] at ho; cases ho
              | some k =>
                rw [hk] at ho
                simp only at ho
                split at ho
                · rename_i hl
                  cases ho
                  unfold opT
                  simp only [Int.toNat_natCast, kindT_name hk]
                  have := tk_nums k
                  split
                  · rename_i h0
                    have : l = [] := List.eq_nil_of_length_eq_zero (by omega)
                    rw [this]
                  · rename_i h0
                    match l, (show l.length = 1 by omega) with
                    | [a], _ => rfl
                · cases ho
            rw [← hy]
            obtain ⟨q, f, rfl⟩ : ∃ q f, p = q ++ [f] := ⟨p.dropLast, p.getLast hp, (List.dropLast_concat_getLast hp).symm⟩
            simp [addOpT, showT, fnT]
theorem fold_show : ∀ (ls : List (List UInt8)) (p p' : List Fn), foldT p ls = some p' → showT p' = showT p ++ ls.flatMap (· ++ [10])
  | [], p, p', h => by cases h; simp
  | x :: ls, p, p', h => by
    cases hq : stepT p (splitT 32 x) with
    | none => simp only [foldT, hq] at h; cases h
    | some q =>
      simp only [foldT, hq] at h
      rw [fold_show ls q p' h, step_show hq]
      simp
theorem flat_join (c : UInt8) : ∀ {ls : List (List UInt8)}, ls ≠ [] → ls.flatMap (· ++ [c]) = Lib.join ls [c] ++ [c]
  | [], h => absurd rfl h
  | [x], _ => by simp [Lib.join_one]
  | x :: y :: ls, _ => by
    have ih := flat_join c (ls := y :: ls) (by simp)
    rw [List.flatMap_cons, ih, Lib.join_cons x (y :: ls)]
    have : Lib.joinTail [c] (y :: ls) = c :: Lib.join (y :: ls) [c] := by rw [Lib.join_cons]; simp [Lib.joinTail]
    rw [this]
    simp
theorem whole_show {l : List UInt8} {p : List Fn} (h : wholeT l = some p) : showT p = l := by
  unfold wholeT at h
  cases hq : linesT l with
  | none => rw [hq] at h; cases h
  | some ls =>
    rw [hq] at h
    have h1 := fold_show ls [] p h
    rw [h1]
    unfold linesT at hq
    split at hq
    · rename_i h0; cases hq; subst h0; rfl
    · split at hq
      · rename_i h0 h2
        cases hq
        rw [flat_join 10 (splitT_ne 10 _), join_split]
        have hne : l ≠ [] := h0
        rw [List.getLast?_eq_some_getLast hne, Option.some.injEq] at h2
        have := List.dropLast_concat_getLast hne
        rw [h2] at this
        simpa [showT] using this
      · cases hq
def lineW (wd : List UInt8) (l : List Int) : List UInt8 := Lib.join (wd :: l.map Lib.itoa) [32]
def opW (x : Int × Int) : List UInt8 := if (tkS.getD x.1.toNat ([], 0)).2 = 0 then lineW (tkS.getD x.1.toNat ([], 0)).1 [] else lineW (tkS.getD x.1.toNat ([], 0)).1 [x.2]
def linesOf (p : List Fn) : List (List UInt8) := p.flatMap fun f => lineW [102, 117, 110, 99] [f.args, f.locals] :: f.code.map opW
theorem opT_W (x : Int × Int) : opT x = opW x ++ [10] := by
  unfold opT opW
  split <;> rfl
theorem show_lines (p : List Fn) : showT p = (linesOf p).flatMap (· ++ [10]) := by
  have hc : ∀ c : List (Int × Int), c.flatMap opT = (c.map opW).flatMap (· ++ [10]) := fun c => by
    induction c with
    | nil => rfl
    | cons x c ih => simp [ih, opT_W]
  induction p with
  | nil => rfl
  | cons f p ih =>
    have : showT (f :: p) = fnT f ++ showT p := by simp [showT]
    rw [this, ih]
    have h2 : linesOf (f :: p) = (lineW [102, 117, 110, 99] [f.args, f.locals] :: f.code.map opW) ++ linesOf p := by simp [linesOf]
    rw [h2]
    simp [fnT, lineT, lineW, hc]
theorem itoa_no {z : Int} (h : 0 ≤ z) : (10 : UInt8) ∉ Lib.itoa z ∧ (32 : UInt8) ∉ Lib.itoa z := by
  have hi : Lib.itoa z = Lib.decDigits z.toNat := by unfold Lib.itoa; rw [if_neg (by omega)]
  rw [hi]
  constructor
  · intro hc
    have := dec_digits _ _ hc
    simp at this
  · intro hc
    have := dec_digits _ _ hc
    simp at this
theorem join_no {c d : UInt8} (hcd : c ≠ d) : ∀ {xs : List (List UInt8)}, (∀ x ∈ xs, c ∉ x) → c ∉ Lib.join xs [d]
  | [], _ => by simp [Lib.join_nil]
  | [x], h => by rw [Lib.join_one]; exact h x (by simp)
  | x :: y :: ys, h => by
    have ih := join_no hcd (xs := y :: ys) (fun z hz => h z (by simp [hz]))
    rw [Lib.join_cons]
    have : Lib.joinTail [d] (y :: ys) = d :: Lib.join (y :: ys) [d] := by rw [Lib.join_cons]; simp [Lib.joinTail]
    rw [this]
    intro hc
    rcases List.mem_append.1 hc with hc | hc
    · exact h x (by simp) hc
    · rcases List.mem_cons.1 hc with hc | hc
      · exact hcd hc
      · exact ih hc
theorem words_no {wd : List UInt8} {l : List Int} (hw : (10 : UInt8) ∉ wd ∧ (32 : UInt8) ∉ wd) (hl : ∀ z ∈ l, 0 ≤ z) : (∀ x ∈ wd :: l.map Lib.itoa, (10 : UInt8) ∉ x) ∧ ∀ x ∈ wd :: l.map Lib.itoa, (32 : UInt8) ∉ x := by
  constructor
  · intro x hx
    rcases List.mem_cons.1 hx with rfl | hx
    · exact hw.1
    · obtain ⟨z, hz, rfl⟩ := List.mem_map.1 hx
      exact (itoa_no (hl z hz)).1
  · intro x hx
    rcases List.mem_cons.1 hx with rfl | hx
    · exact hw.2
    · obtain ⟨z, hz, rfl⟩ := List.mem_map.1 hx
      exact (itoa_no (hl z hz)).2
theorem lineW_split {wd : List UInt8} {l : List Int} (hw : (10 : UInt8) ∉ wd ∧ (32 : UInt8) ∉ wd) (hl : ∀ z ∈ l, 0 ≤ z) : splitT 32 (lineW wd l) = wd :: l.map Lib.itoa ∧ (10 : UInt8) ∉ lineW wd l :=
  ⟨split_join (by simp) (words_no hw hl).2, join_no (by decide) (words_no hw hl).1⟩
theorem tk_no (k : Nat) : (10 : UInt8) ∉ (tkS.getD k ([], 0)).1 ∧ (32 : UInt8) ∉ (tkS.getD k ([], 0)).1 := by
  by_cases h : k < 17
  · revert h; revert k; decide
  · rw [show tkS.getD k ([], 0) = ([], 0) by simp [List.getD, List.getElem?_eq_none (show tkS.length ≤ k by simp [tkS]; omega)]]; simp
theorem tk_func (k : Nat) (h : k < 17) : (tkS.getD k ([], 0)).1 ≠ [102, 117, 110, 99] := by revert h; revert k; decide
theorem tk_kind (k : Nat) (h : k < 17) : kindT (tkS.getD k ([], 0)).1 = some k := by revert h; revert k; decide
theorem step_fn (p : List Fn) {a b : Int} (ha : 0 ≤ a ∧ a ≤ 999) (hb : 0 ≤ b ∧ b ≤ 999) : stepT p (splitT 32 (lineW [102, 117, 110, 99] [a, b])) = some (p ++ [⟨a, b, []⟩]) := by
  rw [(lineW_split (wd := [102, 117, 110, 99]) (l := [a, b]) (by decide) (by simp; omega)).1]
  have hn : numsT ([a, b].map Lib.itoa) = some [a, b] := numsT_itoa (by simp; omega)
  simp only [stepT, hn, if_true]
  rfl
theorem step_op (q : List Fn) (f : Fn) {x : Int × Int} (h1 : 0 ≤ x.1 ∧ x.1 < 17) (h2 : 0 ≤ x.2 ∧ x.2 ≤ 999) (h3 : (tkS.getD x.1.toNat ([], 0)).2 = 0 → x.2 = 0) :
    stepT (q ++ [f]) (splitT 32 (opW x)) = some (q ++ [⟨f.args, f.locals, f.code ++ [x]⟩]) := by
  obtain ⟨k, a⟩ := x
  obtain ⟨k, rfl⟩ := Int.eq_ofNat_of_zero_le h1.1
  simp only [Int.toNat_natCast] at h3 ⊢
  have hk : k < 17 := by omega
  have key : ∀ l : List Int, (∀ z ∈ l, 0 ≤ z ∧ z ≤ 999) → l.length = (tkS.getD k ([], 0)).2 → l.getLastD 0 = a → stepT (q ++ [f]) (splitT 32 (lineW (tkS.getD k ([], 0)).1 l)) = some (q ++ [⟨f.args, f.locals, f.code ++ [((k : Int), a)]⟩]) := fun l hl hll hla => by
    rw [(lineW_split (tk_no k) (fun z hz => (hl z hz).1)).1]
    have ho : opOfT (tkS.getD k ([], 0)).1 l = some ((k : Int), a) := by
      unfold opOfT
      rw [tk_kind k hk]
      simp only [hll, if_true, hla]
    simp only [stepT, numsT_itoa hl, if_neg (tk_func k hk), if_neg (show ¬ (q ++ [f] = []) by simp), ho]
    simp [addOpT]
  unfold opW
  simp only [Int.toNat_natCast]
  by_cases h0 : (tkS.getD k ([], 0)).2 = 0
  · rw [if_pos h0]
    exact key [] (by simp) (by rw [h0]; rfl) (by rw [h3 h0]; rfl)
  · rw [if_neg h0]
    exact key [a] (by simpa using h2) (by have := tk_nums k; rw [List.length_singleton]; omega) rfl
theorem foldT_app : ∀ (xs ys : List (List UInt8)) (p q : List Fn), foldT p xs = some q → foldT p (xs ++ ys) = foldT q ys
  | [], ys, p, q, h => by cases h; rfl
  | x :: xs, ys, p, q, h => by
    rw [List.cons_append]
    cases hq : stepT p (splitT 32 x) with
    | none => simp only [foldT, hq] at h; cases h
    | some p' =>
      simp only [foldT, hq] at h ⊢
      exact foldT_app xs ys p' q h
theorem fold_ops (q : List Fn) (a b : Int) : ∀ (c c0 : List (Int × Int)), (∀ x ∈ c, (0 ≤ x.1 ∧ x.1 < 17) ∧ (0 ≤ x.2 ∧ x.2 ≤ 999) ∧ ((tkS.getD x.1.toNat ([], 0)).2 = 0 → x.2 = 0)) → foldT (q ++ [⟨a, b, c0⟩]) (c.map opW) = some (q ++ [⟨a, b, c0 ++ c⟩])
  | [], c0, _ => by simp [foldT]
  | x :: c, c0, h => by
    obtain ⟨h1, h2, h3⟩ := h x (by simp)
    have hs := step_op q ⟨a, b, c0⟩ h1 h2 h3
    simp only [List.map_cons, foldT, hs]
    rw [fold_ops q a b c (c0 ++ [x]) (fun y hy => h y (by simp [hy]))]
    simp
theorem fold_lines : ∀ (p q : List Fn), (∀ f ∈ p, (0 ≤ f.args ∧ f.args ≤ 4) ∧ (0 ≤ f.locals ∧ f.locals ≤ 4) ∧ f.code.length ≤ 24 ∧ ∀ x ∈ f.code, (0 ≤ x.1 ∧ x.1 < 17) ∧ (0 ≤ x.2 ∧ x.2 ≤ 999) ∧ ((tkS.getD x.1.toNat ([], 0)).2 = 0 → x.2 = 0)) → foldT q (linesOf p) = some (q ++ p)
  | [], q, _ => by simp [linesOf, foldT]
  | f :: p, q, h => by
    obtain ⟨h1, h2, _, h4⟩ := h f (by simp)
    have e : linesOf (f :: p) = (lineW [102, 117, 110, 99] [f.args, f.locals] :: f.code.map opW) ++ linesOf p := by simp [linesOf]
    have hs := step_fn q (a := f.args) (b := f.locals) (by omega) (by omega)
    have h5 : foldT q (lineW [102, 117, 110, 99] [f.args, f.locals] :: f.code.map opW) = some (q ++ [f]) := by
      simp only [foldT, hs]
      rw [fold_ops q f.args f.locals f.code [] h4]
      rfl
    rw [e, foldT_app _ _ _ _ h5, fold_lines p (q ++ [f]) (fun g hg => h g (by simp [hg]))]
    simp
theorem lines_no {p : List Fn} (h : OkT p) : ∀ x ∈ linesOf p, (10 : UInt8) ∉ x := by
  intro x hx
  obtain ⟨f, hf, hx⟩ := List.mem_flatMap.1 hx
  obtain ⟨h1, h2, _, h4⟩ := h.fn f hf
  rcases List.mem_cons.1 hx with rfl | hx
  · exact (lineW_split (by decide) (by simp; omega)).2
  · obtain ⟨y, hy, rfl⟩ := List.mem_map.1 hx
    obtain ⟨_, h6, _⟩ := h4 y hy
    unfold opW
    split
    · exact (lineW_split (tk_no _) (by simp)).2
    · exact (lineW_split (tk_no _) (by simp; omega)).2
theorem whole_of_show {p : List Fn} (h : OkT p) : wholeT (showT p) = some p := by
  have hf := fold_lines p [] h.fn
  simp only [List.nil_append] at hf
  unfold wholeT
  have hl : linesT (showT p) = some (linesOf p) := by
    rw [show_lines]
    by_cases h0 : linesOf p = []
    · rw [h0]; rfl
    · rw [flat_join 10 h0]
      unfold linesT
      rw [if_neg (by simp), if_pos (by simp), List.dropLast_concat, split_join h0 (lines_no h)]
  rw [hl]
  exact hf
theorem itoa_few {z : Int} (h : 0 ≤ z ∧ z ≤ 999) : (Lib.itoa z).length ≤ 3 := by
  have hi : Lib.itoa z = Lib.decDigits z.toNat := by unfold Lib.itoa; rw [if_neg (by omega)]
  rw [hi]
  exact dec_len z.toNat 3 (by omega) (by omega)
theorem line_few (wd : List UInt8) (l : List Int) (h : wd.length ≤ 6) (hl : l.length ≤ 2) (hz : ∀ z ∈ l, 0 ≤ z ∧ z ≤ 999) : (lineT wd l).length ≤ 22 := by
  have := join_len (wd :: l.map Lib.itoa) 6 (fun x hx => by
    rcases List.mem_cons.1 hx with rfl | hx
    · exact h
    · obtain ⟨z, hz', rfl⟩ := List.mem_map.1 hx
      have := itoa_few (hz z hz')
      omega)
  simp only [List.length_cons, List.length_map] at this
  have h2 : (l.length + 1) * (6 + 1) ≤ 3 * 7 := Nat.mul_le_mul (by omega) (by omega)
  simp only [lineT, List.length_append, List.length_cons, List.length_nil]
  omega
theorem show_len {p : List Fn} (h : OkT p) : (showT p).length ≤ 8192 := by
  have hf : ∀ f ∈ p, (fnT f).length ≤ 550 := fun f hf => by
    obtain ⟨h1, h2, h3, h4⟩ := h.fn f hf
    have q1 := line_few [102, 117, 110, 99] [f.args, f.locals] (by simp) (by simp) (by simp; omega)
    have q2 := flatT_len opT 22 f.code (fun x hx => by
      have := tk_len x.1.toNat
      unfold opT
      split
      · exact line_few _ _ (by omega) (by simp) (by simp)
      · exact line_few _ _ (by omega) (by simp) (by simp; exact (h4 x hx).2.1))
    have : f.code.length * 22 ≤ 24 * 22 := Nat.mul_le_mul_right _ h3
    simp only [fnT, List.length_append]
    omega
  have := flatT_len fnT 550 p hf
  have h6 : p.length * 550 ≤ 5 * 550 := Nat.mul_le_mul_right _ h.len
  unfold showT
  omega
theorem read_show {p : List Fn} (h : progS p = 0) : readR (showT p) = (p, 0) := by
  unfold readR
  rw [if_pos (show_len (right_okT h)), whole_of_show (right_okT h)]
  simp only [h, if_true]
theorem read_ok {l : List UInt8} (h : (readR l).2 = 0) : progS (readR l).1 = 0 ∧ showT (readR l).1 = l := by
  unfold readR at h ⊢
  by_cases hl : l.length ≤ 8192
  · rw [if_pos hl] at h ⊢
    cases hw : wholeT l with
    | none => rw [hw] at h; cases h
    | some p =>
      rw [hw] at h
      simp only at h ⊢
      by_cases hz : progS p = 0
      · simp only [hz, if_true]
        exact ⟨trivial, whole_show hw⟩
      · simp only [hz, if_false] at h; cases h
  · rw [if_neg hl] at h; cases h
end Go.Proofs.YtjioipkfnekigaaGreatDoor
